/- The walk of VersionOne. -/
import Derived.Test.YtebamnlknaoehaaVrH
namespace Go.Proofs.Ytebamnlknaoehaa
set_option linter.unusedVariables false
open Go.ChangeShapes Go.WideShapes Go.ChangeAt Go.RowKit

theorem okV_of_right {v : ValV} (h : rightP v = true) : OkV v := by
  rcases right_kinds h with rfl | rfl | rfl | ⟨n, rfl, hn⟩ | ⟨s, rfl, hs⟩
  · exact ⟨⟨by decide, by decide⟩, by decide⟩
  · exact ⟨⟨by decide, by decide⟩, by decide⟩
  · exact ⟨⟨by decide, by decide⟩, by decide⟩
  · have := inN_iff.1 hn
    exact ⟨⟨show -9223372036854775808 ≤ n by omega, show n ≤ 9223372036854775807 by omega⟩, show (ByteArray.empty).size ≤ 1048576 by decide⟩
  · have := (plain_iff.1 hs).1
    exact ⟨⟨show (-9223372036854775808 : Int) ≤ 0 by decide, show (0 : Int) ≤ 9223372036854775807 by decide⟩, show s.size ≤ 1048576 by omega⟩
theorem strs_of_okV {r : List ValV} (h : ∀ a ∈ r, OkV a) : StrsOk r := fun v hv => by have := (h v hv).2; omega
theorem strL_str (s : ByteArray) : strL s.data.toList = s := str_eta s
theorem strL_toList (l : List UInt8) : (strL l).data.toList = l := rfl
theorem toList_strL (l : List UInt8) : (strL l).toList = l := by rw [ByteArray.toList_eq]; rfl
theorem sameG_iff {a b c a2 b2 c2 y : Int} : sameG a b c a2 b2 c2 y = true ↔ a = a2 ∧ b = b2 ∧ c = c2 ∧ y = 0 := by
  unfold sameG
  simp [and_assoc]
theorem ver_texts {a b c a2 b2 c2 : Int} {r r2 : List ValV} (h : OkVer a b c r) (h2 : OkVer a2 b2 c2 r2) : ((strL (headG a b c ++ bytesR r)).toList == (strL (headG a2 b2 c2 ++ bytesR r2)).toList) = sameG a b c a2 b2 c2 (cmpR r r2) := by
  rw [toList_strL, toList_strL, Bool.eq_iff_iff, beq_iff_eq, sameG_iff, ver_inj h h2, cmpR_zero]
theorem put_of_ok {a b c : Int} {r : List ValV} (h : OkVer a b c r) : putVG a b c r = (0, headG a b c ++ bytesR r) := by
  rcases putVG_cases a b c r with ⟨_, e⟩ | ⟨hn, _⟩
  · exact e
  · exact absurd h hn
set_option maxRecDepth 100000 in
set_option maxHeartbeats 4000000 in
theorem one_w (a b c a2 b2 c2 : Int) (A A2 : Option Addr) (n k n2 k2 : Nat) (r r2 : List ValV) (s : ByteArray) (w : World) (h : RowAt w w.heap.size A n k r) (h2 : RowAt w w.heap.size A2 n2 k2 r2) (hn : n ≤ 1048576) (hn2 : n2 ≤ 1048576) (hr : ∀ a ∈ r, OkV a) (hr2 : ∀ a ∈ r2, OkV a) (hm : s.size ≤ 1048576) :
    Calls Try.prog 5 #[verAgg a b c A n k, verAgg a2 b2 c2 A2 n2 k2, .string s] w fun e w' => e = .returned (.bool true) ∧ Below w.heap.size w w' := by
  have hlen := h.len
  subst hlen
  have QA := hide (fun W => awakeV_c W)
  have QO := hide (fun (W : World) (hW : Below w.heap.size w W) => over_c A r.length k r W (h.kept hW) hn)
  have QO2 := hide (fun (W : World) (hW : Below w.heap.size w W) => over_c A2 n2 k2 r2 W (h2.kept hW) hn2)
  have QP := hide (fun (W : World) (hW : Below w.heap.size w W) => vput_c a b c A r.length k r W (h.kept hW) hn hr)
  have QP2 := hide (fun (W : World) (hW : Below w.heap.size w W) => vput_c a2 b2 c2 A2 n2 k2 r2 W (h2.kept hW) hn2 hr2)
  have QG := hide (fun W => vget_c s W hm)
  have QS1 := hide (fun (W : World) (hW : Below w.heap.size w W) (A3 : Option Addr) (k3 : Nat) (h3 : RowAt W W.heap.size A3 r.length k3 r) => same_c a b c a b c A3 A r.length k3 r.length k r r W h3 (h.kept hW) (strs_of_okV hr) (strs_of_okV hr))
  rw [cmpR_refl, same_self] at QS1
  have QS2 := hide (fun (W : World) (hW : Below w.heap.size w W) => same_c a b c a2 b2 c2 A A2 r.length k n2 k2 r r2 W (h.kept hW) (h2.kept hW) (strs_of_okV hr) (strs_of_okV hr2))
  clear h h2 hr hr2
  have HV := hide ((vb_new w a b c A r.length k).kept (Bel.one _ (.cells #[.int .i64 a2, .int .i64 b2, .int .i64 c2, .slice A2 n2 k2] 25)))
  have HU := hide (vb_new (w.alloc (.cells #[.int .i64 a, .int .i64 b, .int .i64 c, .slice A r.length k] 25)) a2 b2 c2 A2 n2 k2)
  have HB := hide (Bel.alloc (Bel.one w (.cells #[.int .i64 a, .int .i64 b, .int .i64 c, .slice A r.length k] 25)) (.cells #[.int .i64 a2, .int .i64 b2, .int .i64 c2, .slice A2 n2 k2] 25))
  rw [World.size_alloc] at HU
  unfold verAgg at QP QP2 QS1 QS2 ⊢
  cases ho : overG r
  · rw [ho] at QO
    cases ho2 : overG r2
    · rw [ho2] at QO2
      clear ho ho2
      by_cases h6 : s.size ≤ 600
      · have hge := getV_err s.data.toList
        have hgb := fun a b c r => @getV_back s.data.toList a b c r
        generalize getVG s.data.toList = y at *
        obtain ⟨ye, yr, yf, yt, yd⟩ := y
        have hy : Hid ((ye = 0 ∧ OkVer yr yf yt yd ∧ s = strL (headG yr yf yt ++ bytesR yd)) ∨ ((ye == 0) = false ∧ yr = 0 ∧ yf = 0 ∧ yt = 0 ∧ yd = [])) := by
          rcases hge with h0 | ⟨h0, h1⟩
          · simp only at h0
            subst h0
            obtain ⟨g1, g2⟩ := hgb yr yf yt yd rfl
            exact .inl ⟨rfl, g1, by rw [← g2, strL_str]⟩
          · simp only at h0 h1
            injection h1 with _ e1 e2 e3 e4
            exact .inr ⟨by simpa using h0, e1, e2, e3, e4⟩
        clear hge hgb
        have hv := putVG_cases a b c r
        have hu := putVG_cases a2 b2 c2 r2
        rcases hy with ⟨rfl, hoy, hsy⟩ | ⟨hye, rfl, rfl, rfl, rfl⟩
        · have hd32 := hoy.row.len
          have QPx := hide (fun (W : World) (Ax : Option Addr) (kx : Nat) (hx : RowAt W W.heap.size Ax yd.length kx yd) => vput_c yr yf yt Ax yd.length kx yd W hx (by omega) (fun v hv => okV_of_right (List.all_eq_true.1 hoy.row.right v hv)))
          rw [put_of_ok hoy] at QPx
          unfold GivesP verAgg at QPx
          simp only at QPx
          rw [← hsy] at QPx
          clear hoy hsy
          rcases hv with ⟨hov, hpv⟩ | ⟨_, hv1, hv2⟩
          · rcases hu with ⟨hou, hpu⟩ | ⟨_, hu1, hu2⟩
            · have hz : (strL (headG a b c ++ bytesR r)).size ≤ 400 := by rw [strL_size, List.length_append, head_len]; have := hov.size; omega
              have QG1 := hide (fun W => vget_c (strL (headG a b c ++ bytesR r)) W (by omega))
              rw [strL_toList, getV_put hov] at QG1
              rw [hpv] at QP
              unfold GivesP at QP QP2
              simp only at QP QP2
              have htx := ver_texts hov hou
              rw [hpu] at QP2
              simp only at QP2
              generalize sameG a b c a2 b2 c2 (cmpR r r2) = z at *
              generalize strL (headG a2 b2 c2 ++ bytesR r2) = t2 at *
              generalize strL (headG a b c ++ bytesR r) = t at *
              clear hpv hpu hov hou
              go_enter Try.func5, Try.ntmps5
              go_wp2_with fail
              refine (QO.out _ HB.out).mono ?_
              rintro e w1 ⟨rfl, rfl⟩
              go_wp2_with fail
              refine (QO2.out _ HB.out).mono ?_
              rintro e w1 ⟨rfl, rfl⟩
              go_wp2_with fail
              refine (QP.out _ HB.out).mono ?_
              rintro e w1 ⟨rfl, hb⟩
              have HB1 := hide (Bel.then HB.out hb)
              have HV1 := hide (HV.out.kept hb)
              have HU1 := hide (HU.out.kept hb)
              clear hb
              obtain ⟨⟨k0, k1, k2', k3⟩, _⟩ := HU1.out.all
              go_wp2_with fail
              refine (QP2.out _ HB1.out).mono ?_
              rintro e w2 ⟨rfl, hb⟩
              have HB2 := hide (Bel.then HB1.out hb)
              have HV2 := hide (HV1.out.kept hb)
              have HU2 := hide (HU1.out.kept hb)
              clear hb HB1 HV1 HU1 k0 k1 k2' k3
              go_wp2_with fail
              refine (QG1.out _).mono ?_
              rintro e w3 ⟨A3, k3, rfl, hr3, hb⟩
              simp only at hr3
              unfold verAgg
              simp only
              have hb2 := Bel.then hb (Bel.one w3 (.cells #[.int .i64 a, .int .i64 b, .int .i64 c, .slice A3 r.length k3] 25))
              have HR3 := hide (hr3.kept (Bel.one w3 (.cells #[.int .i64 a, .int .i64 b, .int .i64 c, .slice A3 r.length k3] 25)))
              have HX3 := hide (vb_new w3 a b c A3 r.length k3)
              have HB3 := hide (Bel.then HB2.out hb2)
              have HV3 := hide (HV2.out.kept hb2)
              have HU3 := hide (HU2.out.kept hb2)
              clear hb hb2 hr3 HB2 HV2 HU2
              obtain ⟨⟨k0, k1, k2', k3'⟩, _⟩ := HV3.out.all
              go_wp2_with fail
              refine (QS1.out _ HB3.out _ _ HR3.out).mono ?_
              rintro e w4 ⟨rfl, hb⟩
              have HB4 := hide (Bel.then HB3.out hb)
              have HV4 := hide (HV3.out.kept hb)
              have HU4 := hide (HU3.out.kept hb)
              clear hb HB3 HV3 HU3 HR3 HX3 k0 k1 k2' k3'
              obtain ⟨⟨k0, k1, k2', k3'⟩, _⟩ := HV4.out.all
              obtain ⟨⟨l0, l1, l2, l3⟩, _⟩ := HU4.out.all
              go_wp2_with fail
              refine (QS2.out _ HB4.out).mono ?_
              rintro e w5 ⟨rfl, hb⟩
              have HB5 := hide (Bel.then HB4.out hb)
              clear hb HB4 HV4 HU4 k0 k1 k2' k3' l0 l1 l2 l3
              go_wp2_with fail
              refine (QG.out _).mono ?_
              rintro e wg ⟨Ag, kg, rfl, hrg, hb⟩
              simp only at hrg
              unfold verAgg
              simp only
              have HRg := hide (hrg.kept (Bel.one wg (.cells #[.int .i64 yr, .int .i64 yf, .int .i64 yt, .slice Ag yd.length kg] 25)))
              have HBg := hide (Bel.alloc (Bel.then HB5.out hb) (.cells #[.int .i64 yr, .int .i64 yf, .int .i64 yt, .slice Ag yd.length kg] 25))
              clear hb hrg
              go_wp2_with fail
              refine (QPx.out _ _ _ HRg.out).mono ?_
              rintro e wx ⟨rfl, hb⟩
              have HBx := hide (Bel.then HBg.out hb)
              clear hb HBg HRg
              go_wp2_with fail
              refine (QA.out _).mono ?_
              rintro e wz ⟨rfl, hb⟩
              have HZ := hide (Bel.then HBx.out hb)
              clear hb HBx
              go_wp2_with fail
              go_ret
              exact ⟨ret_bool (by simp), HZ.out⟩
            · have hz : (strL (headG a b c ++ bytesR r)).size ≤ 400 := by rw [strL_size, List.length_append, head_len]; have := hov.size; omega
              have QG1 := hide (fun W => vget_c (strL (headG a b c ++ bytesR r)) W (by omega))
              rw [strL_toList, getV_put hov] at QG1
              rw [hpv] at QP
              unfold GivesP at QP QP2
              simp only at QP QP2
              have hu0 : ((putVG a2 b2 c2 r2).1 == 0) = false := by simpa using hu1
              generalize (putVG a2 b2 c2 r2).1 = u1 at *
              generalize strL (putVG a2 b2 c2 r2).2 = t2 at *
              generalize strL (headG a b c ++ bytesR r) = t at *
              clear hpv hov hu1 hu2
              go_enter Try.func5, Try.ntmps5
              go_wp2_with fail
              refine (QO.out _ HB.out).mono ?_
              rintro e w1 ⟨rfl, rfl⟩
              go_wp2_with fail
              refine (QO2.out _ HB.out).mono ?_
              rintro e w1 ⟨rfl, rfl⟩
              go_wp2_with fail
              refine (QP.out _ HB.out).mono ?_
              rintro e w1 ⟨rfl, hb⟩
              have HB1 := hide (Bel.then HB.out hb)
              have HV1 := hide (HV.out.kept hb)
              have HU1 := hide (HU.out.kept hb)
              clear hb
              obtain ⟨⟨k0, k1, k2', k3⟩, _⟩ := HU1.out.all
              go_wp2_with fail
              refine (QP2.out _ HB1.out).mono ?_
              rintro e w2 ⟨rfl, hb⟩
              have HB2 := hide (Bel.then HB1.out hb)
              have HV2 := hide (HV1.out.kept hb)
              have HU2 := hide (HU1.out.kept hb)
              clear hb HB1 HV1 HU1 k0 k1 k2' k3
              go_wp2_with fail
              refine (QG1.out _).mono ?_
              rintro e w3 ⟨A3, k3, rfl, hr3, hb⟩
              simp only at hr3
              unfold verAgg
              simp only
              have hb2 := Bel.then hb (Bel.one w3 (.cells #[.int .i64 a, .int .i64 b, .int .i64 c, .slice A3 r.length k3] 25))
              have HR3 := hide (hr3.kept (Bel.one w3 (.cells #[.int .i64 a, .int .i64 b, .int .i64 c, .slice A3 r.length k3] 25)))
              have HX3 := hide (vb_new w3 a b c A3 r.length k3)
              have HB3 := hide (Bel.then HB2.out hb2)
              have HV3 := hide (HV2.out.kept hb2)
              have HU3 := hide (HU2.out.kept hb2)
              clear hb hb2 hr3 HB2 HV2 HU2
              obtain ⟨⟨k0, k1, k2', k3'⟩, _⟩ := HV3.out.all
              go_wp2_with fail
              refine (QS1.out _ HB3.out _ _ HR3.out).mono ?_
              rintro e w4 ⟨rfl, hb⟩
              have HB4 := hide (Bel.then HB3.out hb)
              have HV4 := hide (HV3.out.kept hb)
              have HU4 := hide (HU3.out.kept hb)
              clear hb HB3 HV3 HU3 HR3 HX3 k0 k1 k2' k3'
              obtain ⟨⟨k0, k1, k2', k3'⟩, _⟩ := HV4.out.all
              obtain ⟨⟨l0, l1, l2, l3⟩, _⟩ := HU4.out.all
              go_wp2_with fail
              refine (QG.out _).mono ?_
              rintro e wg ⟨Ag, kg, rfl, hrg, hb⟩
              simp only at hrg
              unfold verAgg
              simp only
              have HRg := hide (hrg.kept (Bel.one wg (.cells #[.int .i64 yr, .int .i64 yf, .int .i64 yt, .slice Ag yd.length kg] 25)))
              have HBg := hide (Bel.alloc (Bel.then HB4.out hb) (.cells #[.int .i64 yr, .int .i64 yf, .int .i64 yt, .slice Ag yd.length kg] 25))
              clear hb hrg
              go_wp2_with fail
              refine (QPx.out _ _ _ HRg.out).mono ?_
              rintro e wx ⟨rfl, hb⟩
              have HBx := hide (Bel.then HBg.out hb)
              clear hb HBg HRg
              go_wp2_with fail
              refine (QA.out _).mono ?_
              rintro e wz ⟨rfl, hb⟩
              have HZ := hide (Bel.then HBx.out hb)
              clear hb HBx
              go_wp2_with fail
              go_ret
              exact ⟨ret_bool (by simp), HZ.out⟩
          · have hv0 : ((putVG a b c r).1 == 0) = false := by simpa using hv1
            unfold GivesP at QP QP2
            try simp only at QP QP2
            generalize (putVG a b c r).1 = v1 at *
            generalize strL (putVG a b c r).2 = t at *
            generalize (putVG a2 b2 c2 r2).1 = u1 at *
            generalize strL (putVG a2 b2 c2 r2).2 = t2 at *
            clear hu hv1 hv2
            go_enter Try.func5, Try.ntmps5
            go_wp2_with fail
            refine (QO.out _ HB.out).mono ?_
            rintro e w1 ⟨rfl, rfl⟩
            go_wp2_with fail
            refine (QO2.out _ HB.out).mono ?_
            rintro e w1 ⟨rfl, rfl⟩
            go_wp2_with fail
            refine (QP.out _ HB.out).mono ?_
            rintro e w1 ⟨rfl, hb⟩
            have HB1 := hide (Bel.then HB.out hb)
            have HV1 := hide (HV.out.kept hb)
            have HU1 := hide (HU.out.kept hb)
            clear hb
            obtain ⟨⟨k0, k1, k2', k3⟩, _⟩ := HU1.out.all
            go_wp2_with fail
            refine (QP2.out _ HB1.out).mono ?_
            rintro e w2 ⟨rfl, hb⟩
            have HB2 := hide (Bel.then HB1.out hb)
            have HV2 := hide (HV1.out.kept hb)
            have HU2 := hide (HU1.out.kept hb)
            clear hb HB1 HV1 HU1 k0 k1 k2' k3
            go_wp2_with fail
            refine (QG.out _).mono ?_
            rintro e wg ⟨Ag, kg, rfl, hrg, hb⟩
            simp only at hrg
            unfold verAgg
            simp only
            have HRg := hide (hrg.kept (Bel.one wg (.cells #[.int .i64 yr, .int .i64 yf, .int .i64 yt, .slice Ag yd.length kg] 25)))
            have HBg := hide (Bel.alloc (Bel.then HB2.out hb) (.cells #[.int .i64 yr, .int .i64 yf, .int .i64 yt, .slice Ag yd.length kg] 25))
            clear hb hrg
            go_wp2_with fail
            refine (QPx.out _ _ _ HRg.out).mono ?_
            rintro e wx ⟨rfl, hb⟩
            have HBx := hide (Bel.then HBg.out hb)
            clear hb HBg HRg
            go_wp2_with fail
            refine (QA.out _).mono ?_
            rintro e wz ⟨rfl, hb⟩
            have HZ := hide (Bel.then HBx.out hb)
            clear hb HBx
            go_wp2_with fail
            go_ret
            exact ⟨ret_bool (by simp), HZ.out⟩
        · clear hm
          rcases hv with ⟨hov, hpv⟩ | ⟨_, hv1, hv2⟩
          · rcases hu with ⟨hou, hpu⟩ | ⟨_, hu1, hu2⟩
            · have hz : (strL (headG a b c ++ bytesR r)).size ≤ 400 := by rw [strL_size, List.length_append, head_len]; have := hov.size; omega
              have QG1 := hide (fun W => vget_c (strL (headG a b c ++ bytesR r)) W (by omega))
              rw [strL_toList, getV_put hov] at QG1
              rw [hpv] at QP
              unfold GivesP at QP QP2
              simp only at QP QP2
              have htx := ver_texts hov hou
              rw [hpu] at QP2
              simp only at QP2
              generalize sameG a b c a2 b2 c2 (cmpR r r2) = z at *
              generalize strL (headG a2 b2 c2 ++ bytesR r2) = t2 at *
              generalize strL (headG a b c ++ bytesR r) = t at *
              clear hpv hpu hov hou
              go_enter Try.func5, Try.ntmps5
              go_wp2_with fail
              refine (QO.out _ HB.out).mono ?_
              rintro e w1 ⟨rfl, rfl⟩
              go_wp2_with fail
              refine (QO2.out _ HB.out).mono ?_
              rintro e w1 ⟨rfl, rfl⟩
              go_wp2_with fail
              refine (QP.out _ HB.out).mono ?_
              rintro e w1 ⟨rfl, hb⟩
              have HB1 := hide (Bel.then HB.out hb)
              have HV1 := hide (HV.out.kept hb)
              have HU1 := hide (HU.out.kept hb)
              clear hb
              obtain ⟨⟨k0, k1, k2', k3⟩, _⟩ := HU1.out.all
              go_wp2_with fail
              refine (QP2.out _ HB1.out).mono ?_
              rintro e w2 ⟨rfl, hb⟩
              have HB2 := hide (Bel.then HB1.out hb)
              have HV2 := hide (HV1.out.kept hb)
              have HU2 := hide (HU1.out.kept hb)
              clear hb HB1 HV1 HU1 k0 k1 k2' k3
              go_wp2_with fail
              refine (QG1.out _).mono ?_
              rintro e w3 ⟨A3, k3, rfl, hr3, hb⟩
              simp only at hr3
              unfold verAgg
              simp only
              have hb2 := Bel.then hb (Bel.one w3 (.cells #[.int .i64 a, .int .i64 b, .int .i64 c, .slice A3 r.length k3] 25))
              have HR3 := hide (hr3.kept (Bel.one w3 (.cells #[.int .i64 a, .int .i64 b, .int .i64 c, .slice A3 r.length k3] 25)))
              have HX3 := hide (vb_new w3 a b c A3 r.length k3)
              have HB3 := hide (Bel.then HB2.out hb2)
              have HV3 := hide (HV2.out.kept hb2)
              have HU3 := hide (HU2.out.kept hb2)
              clear hb hb2 hr3 HB2 HV2 HU2
              obtain ⟨⟨k0, k1, k2', k3'⟩, _⟩ := HV3.out.all
              go_wp2_with fail
              refine (QS1.out _ HB3.out _ _ HR3.out).mono ?_
              rintro e w4 ⟨rfl, hb⟩
              have HB4 := hide (Bel.then HB3.out hb)
              have HV4 := hide (HV3.out.kept hb)
              have HU4 := hide (HU3.out.kept hb)
              clear hb HB3 HV3 HU3 HR3 HX3 k0 k1 k2' k3'
              obtain ⟨⟨k0, k1, k2', k3'⟩, _⟩ := HV4.out.all
              obtain ⟨⟨l0, l1, l2, l3⟩, _⟩ := HU4.out.all
              go_wp2_with fail
              refine (QS2.out _ HB4.out).mono ?_
              rintro e w5 ⟨rfl, hb⟩
              have HB5 := hide (Bel.then HB4.out hb)
              clear hb HB4 HV4 HU4 k0 k1 k2' k3' l0 l1 l2 l3
              go_wp2_with fail
              refine (QG.out _).mono ?_
              rintro e wg ⟨Ag, kg, rfl, hrg, hb⟩
              unfold verAgg
              try simp only [List.length_nil]
              have HBg := hide (Bel.alloc (Bel.then HB5.out hb) (.cells #[.int .i64 0, .int .i64 0, .int .i64 0, .slice Ag 0 kg] 25))
              clear hb
              go_wp2_with fail
              refine (QA.out _).mono ?_
              rintro e wz ⟨rfl, hb⟩
              have HZ := hide (Bel.then HBg.out hb)
              clear hb HBg
              go_wp2_with fail
              go_ret
              exact ⟨rfl, HZ.out⟩
            · have hz : (strL (headG a b c ++ bytesR r)).size ≤ 400 := by rw [strL_size, List.length_append, head_len]; have := hov.size; omega
              have QG1 := hide (fun W => vget_c (strL (headG a b c ++ bytesR r)) W (by omega))
              rw [strL_toList, getV_put hov] at QG1
              rw [hpv] at QP
              unfold GivesP at QP QP2
              simp only at QP QP2
              have hu0 : ((putVG a2 b2 c2 r2).1 == 0) = false := by simpa using hu1
              generalize (putVG a2 b2 c2 r2).1 = u1 at *
              generalize strL (putVG a2 b2 c2 r2).2 = t2 at *
              generalize strL (headG a b c ++ bytesR r) = t at *
              clear hpv hov hu1 hu2
              go_enter Try.func5, Try.ntmps5
              go_wp2_with fail
              refine (QO.out _ HB.out).mono ?_
              rintro e w1 ⟨rfl, rfl⟩
              go_wp2_with fail
              refine (QO2.out _ HB.out).mono ?_
              rintro e w1 ⟨rfl, rfl⟩
              go_wp2_with fail
              refine (QP.out _ HB.out).mono ?_
              rintro e w1 ⟨rfl, hb⟩
              have HB1 := hide (Bel.then HB.out hb)
              have HV1 := hide (HV.out.kept hb)
              have HU1 := hide (HU.out.kept hb)
              clear hb
              obtain ⟨⟨k0, k1, k2', k3⟩, _⟩ := HU1.out.all
              go_wp2_with fail
              refine (QP2.out _ HB1.out).mono ?_
              rintro e w2 ⟨rfl, hb⟩
              have HB2 := hide (Bel.then HB1.out hb)
              have HV2 := hide (HV1.out.kept hb)
              have HU2 := hide (HU1.out.kept hb)
              clear hb HB1 HV1 HU1 k0 k1 k2' k3
              go_wp2_with fail
              refine (QG1.out _).mono ?_
              rintro e w3 ⟨A3, k3, rfl, hr3, hb⟩
              simp only at hr3
              unfold verAgg
              simp only
              have hb2 := Bel.then hb (Bel.one w3 (.cells #[.int .i64 a, .int .i64 b, .int .i64 c, .slice A3 r.length k3] 25))
              have HR3 := hide (hr3.kept (Bel.one w3 (.cells #[.int .i64 a, .int .i64 b, .int .i64 c, .slice A3 r.length k3] 25)))
              have HX3 := hide (vb_new w3 a b c A3 r.length k3)
              have HB3 := hide (Bel.then HB2.out hb2)
              have HV3 := hide (HV2.out.kept hb2)
              have HU3 := hide (HU2.out.kept hb2)
              clear hb hb2 hr3 HB2 HV2 HU2
              obtain ⟨⟨k0, k1, k2', k3'⟩, _⟩ := HV3.out.all
              go_wp2_with fail
              refine (QS1.out _ HB3.out _ _ HR3.out).mono ?_
              rintro e w4 ⟨rfl, hb⟩
              have HB4 := hide (Bel.then HB3.out hb)
              have HV4 := hide (HV3.out.kept hb)
              have HU4 := hide (HU3.out.kept hb)
              clear hb HB3 HV3 HU3 HR3 HX3 k0 k1 k2' k3'
              obtain ⟨⟨k0, k1, k2', k3'⟩, _⟩ := HV4.out.all
              obtain ⟨⟨l0, l1, l2, l3⟩, _⟩ := HU4.out.all
              go_wp2_with fail
              refine (QG.out _).mono ?_
              rintro e wg ⟨Ag, kg, rfl, hrg, hb⟩
              unfold verAgg
              try simp only [List.length_nil]
              have HBg := hide (Bel.alloc (Bel.then HB4.out hb) (.cells #[.int .i64 0, .int .i64 0, .int .i64 0, .slice Ag 0 kg] 25))
              clear hb
              go_wp2_with fail
              refine (QA.out _).mono ?_
              rintro e wz ⟨rfl, hb⟩
              have HZ := hide (Bel.then HBg.out hb)
              clear hb HBg
              go_wp2_with fail
              go_ret
              exact ⟨rfl, HZ.out⟩
          · have hv0 : ((putVG a b c r).1 == 0) = false := by simpa using hv1
            unfold GivesP at QP QP2
            try simp only at QP QP2
            generalize (putVG a b c r).1 = v1 at *
            generalize strL (putVG a b c r).2 = t at *
            generalize (putVG a2 b2 c2 r2).1 = u1 at *
            generalize strL (putVG a2 b2 c2 r2).2 = t2 at *
            clear hu hv1 hv2
            go_enter Try.func5, Try.ntmps5
            go_wp2_with fail
            refine (QO.out _ HB.out).mono ?_
            rintro e w1 ⟨rfl, rfl⟩
            go_wp2_with fail
            refine (QO2.out _ HB.out).mono ?_
            rintro e w1 ⟨rfl, rfl⟩
            go_wp2_with fail
            refine (QP.out _ HB.out).mono ?_
            rintro e w1 ⟨rfl, hb⟩
            have HB1 := hide (Bel.then HB.out hb)
            have HV1 := hide (HV.out.kept hb)
            have HU1 := hide (HU.out.kept hb)
            clear hb
            obtain ⟨⟨k0, k1, k2', k3⟩, _⟩ := HU1.out.all
            go_wp2_with fail
            refine (QP2.out _ HB1.out).mono ?_
            rintro e w2 ⟨rfl, hb⟩
            have HB2 := hide (Bel.then HB1.out hb)
            have HV2 := hide (HV1.out.kept hb)
            have HU2 := hide (HU1.out.kept hb)
            clear hb HB1 HV1 HU1 k0 k1 k2' k3
            go_wp2_with fail
            refine (QG.out _).mono ?_
            rintro e wg ⟨Ag, kg, rfl, hrg, hb⟩
            unfold verAgg
            try simp only [List.length_nil]
            have HBg := hide (Bel.alloc (Bel.then HB2.out hb) (.cells #[.int .i64 0, .int .i64 0, .int .i64 0, .slice Ag 0 kg] 25))
            clear hb
            go_wp2_with fail
            refine (QA.out _).mono ?_
            rintro e wz ⟨rfl, hb⟩
            have HZ := hide (Bel.then HBg.out hb)
            clear hb HBg
            go_wp2_with fail
            go_ret
            exact ⟨rfl, HZ.out⟩
      · go_enter Try.func5, Try.ntmps5
        go_wp2_with fail
        refine (QO.out _ HB.out).mono ?_
        rintro e w1 ⟨rfl, rfl⟩
        go_wp2_with fail
        refine (QO2.out _ HB.out).mono ?_
        rintro e w1 ⟨rfl, rfl⟩
        go_wp2_with fail
        refine (QA.out _).mono ?_
        rintro e wz ⟨rfl, hb⟩
        have HZ := hide (Bel.then HB.out hb)
        clear hb
        go_wp2_with fail
        go_ret
        exact ⟨rfl, HZ.out⟩
    · rw [ho2] at QO2
      go_enter Try.func5, Try.ntmps5
      go_wp2_with fail
      refine (QO.out _ HB.out).mono ?_
      rintro e w1 ⟨rfl, rfl⟩
      go_wp2_with fail
      refine (QO2.out _ HB.out).mono ?_
      rintro e w1 ⟨rfl, rfl⟩
      go_wp2_with fail
      refine (QA.out _).mono ?_
      rintro e wz ⟨rfl, hb⟩
      have HZ := hide (Bel.then HB.out hb)
      clear hb
      go_wp2_with fail
      go_ret
      exact ⟨rfl, HZ.out⟩
  · rw [ho] at QO
    go_enter Try.func5, Try.ntmps5
    go_wp2_with fail
    refine (QO.out _ HB.out).mono ?_
    rintro e w1 ⟨rfl, rfl⟩
    go_wp2_with fail
    refine (QA.out _).mono ?_
    rintro e wz ⟨rfl, hb⟩
    have HZ := hide (Bel.then HB.out hb)
    clear hb
    go_wp2_with fail
    go_ret
    exact ⟨rfl, HZ.out⟩
end Go.Proofs.Ytebamnlknaoehaa
