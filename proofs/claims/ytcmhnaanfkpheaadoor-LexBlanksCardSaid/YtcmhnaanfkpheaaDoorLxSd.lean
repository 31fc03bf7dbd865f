/- LexBlanks: the walk. -/
import Derived.Test.YtcmhnaanfkpheaaDoorLxSc
namespace Go.Proofs.YtcmhnaanfkpheaaDoor
set_option linter.unusedVariables false
open Go.ChangeShapes Go.WideShapes Go.ChangeAt Go.RowKit

theorem run_len {l : List UInt8} : ∀ (xs : List TokA) (a : Nat), RunT l a xs → a ≤ l.length → xs.length + a ≤ l.length
  | [], a, _, ha => by rw [List.length_nil]; omega
  | x :: xs, a, h, ha => by
    obtain ⟨h1, h2, h3, h4⟩ := h
    obtain ⟨f1, f2, f3, _⟩ := tok_facts ha h1 h2 h3
    have := run_len xs _ h4 f3
    rw [List.length_cons]
    omega
theorem run_mem {l : List UInt8} : ∀ (xs : List TokA) (a : Nat), RunT l a xs → a ≤ l.length → ∀ (i : Nat) (x : TokA), xs[i]? = some x → 1 ≤ x.t.size ∧ x.at_ + x.t.size ≤ l.length
  | [], a, _, ha, i, x, hx => by simp at hx
  | y :: ys, a, h, ha, i, x, hx => by
    obtain ⟨h1, h2, h3, h4⟩ := h
    obtain ⟨f1, f2, f3, _⟩ := tok_facts ha h1 h2 h3
    cases i with
    | zero => injection hx with hx; subst hx; exact ⟨f2, f3⟩
    | succ i => exact run_mem ys _ h4 f3 i x (by simpa using hx)
def gapsL : List (List UInt8) := [[32], [10], [9, 13, 32], [32, 45, 45, 120, 39, 10]]
theorem gap_ok {g : List UInt8} (h : g ∈ gapsL) : GapOk g ∧ g.length ≤ 6 := by
  unfold gapsL at h
  simp only [List.mem_cons, List.not_mem_nil, or_false] at h
  rcases h with rfl | rfl | rfl | rfl
  · exact ⟨gap1, by decide⟩
  · exact ⟨gap2, by decide⟩
  · exact ⟨gap3, by decide⟩
  · exact ⟨gap4, by decide⟩
abbrev gapObj : Obj := .cells #[.string { data := #[32] }, .string { data := #[10] }, .string { data := #[9, 13, 32] }, .string { data := #[32, 45, 45, 120, 39, 10] }] 9
theorem gap_cells (w : World) (i : Nat) (x : List UInt8) (h : gapsL[i]? = some x) : (w.alloc gapObj).cell? ⟨w.heap.size, i, none⟩ = some (.string (strL x)) := by
  have hh := heap_alloc_new w gapObj
  match i, h with
  | 0, h => injection h with h; subst h; exact Lib.cell_of_heap hh 0
  | 1, h => injection h with h; subst h; exact Lib.cell_of_heap hh 1
  | 2, h => injection h with h; subst h; exact Lib.cell_of_heap hh 2
  | 3, h => injection h with h; subst h; exact Lib.cell_of_heap hh 3
  | i + 4, h => exact absurd h (by simp [gapsL])
/-- The text joined so far. -/
def JoinAt (l g : List UInt8) (xs : List TokA) (k : Nat) (T : List UInt8) : Prop := T = joinG l g (xs.take k) ∧ T.length ≤ 306 * k
theorem joinAt_next {l g : List UInt8} {xs : List TokA} {k : Nat} {T : List UInt8} {x : TokA} (h : JoinAt l g xs k T) (hx : xs[k]? = some x) (hg : g.length ≤ 6) (hs : x.t.size ≤ 300) : JoinAt l g xs (k + 1) (T ++ (pieceL l x ++ g)) := by
  obtain ⟨h1, h2⟩ := h
  constructor
  · rw [take_at hx, h1]
    unfold joinG
    simp
  · have : (pieceL l x).length ≤ x.t.size := by unfold pieceL; rw [List.length_take]; omega
    rw [List.length_append, List.length_append]
    omega
theorem toks_joined {l g : List UInt8} {xs : List TokA} (hg : GapOk g) (h : RunT l 0 xs) (h2 : (joinG l g xs).length ≤ 2000) : tokensS (joinG l g xs) = (shiftG g 0 xs, 0, 0) := by
  have hr := run_gap hg xs 0 h (Nat.zero_le _) []
  rw [List.nil_append, List.length_nil] at hr
  unfold tokensS
  rw [if_neg (by omega)]
  exact run_to _ _ _ hr (Nat.zero_le _) (by omega)
theorem byte_mod (z : Int) (h0 : 0 ≤ z) (h1 : z < 256) : ∃ r : Nat, r < 4 ∧ z.tmod 4 = (r : Int) ∧ IntKind.u8.wrap (z.tmod 4) = (r : Int) ∧ IntKind.u8.wrap (r : Int) = (r : Int) := by
  refine ⟨(z % 4).toNat, by omega, ?_, ?_, IntWalk.u8_in _ (by omega)⟩
  · rw [Int.tmod_eq_emod_of_nonneg h0]; omega
  · rw [Int.tmod_eq_emod_of_nonneg h0, IntWalk.u8_in _ (by omega)]; omega
set_option maxRecDepth 100000 in
set_option maxHeartbeats 4000000 in
theorem lexblanks_w (s : ByteArray) (z : Int) (hz0 : 0 ≤ z) (hz1 : z < 256) (w : World) (hM : ∃ m, w.cell? ⟨1, 0, none⟩ = some (.int .i64 m)) : Calls Tryd.prog 6 #[.string s, .int .u8 z] w fun e w' => e = .returned (.bool true) ∧ Below w.heap.size w w' := by
  have HM := hide hM
  have hl := str_len s
  clear hM
  by_cases h600 : 300 < s.size
  · have h600i : (300 : Int) < s.size := by omega
    go_enter Tryd.func6, Tryd.ntmps6
    go_wp2_with fail
    refine (awake_c _ HM.out).mono ?_
    rintro e w1 ⟨rfl, hb⟩
    go_wp2_with fail
    go_ret
    exact ⟨rfl, hb⟩
  · have h600i : ¬ (300 : Int) < s.size := by omega
    have QT := hide (fun W h => tokens_c s W h (by omega))
    obtain ⟨⟨xs, P, E⟩, hR⟩ : ∃ R, tokensS s.data.toList = R := ⟨_, rfl⟩
    rw [hR] at QT
    by_cases hE : E = 0
    · subst hE
      have hrun := toksS_run (by omega) hR
      have hlen := run_len _ _ hrun (Nat.zero_le _)
      have HRM := hide (run_mem _ _ hrun (Nat.zero_le _))
      have HR0 := hide hrun
      obtain ⟨n, hn⟩ : ∃ n, xs.length = n := ⟨_, rfl⟩
      have HNN := hide hn
      have hn3 : n ≤ 300 := by omega
      obtain ⟨r, hr4, fr1, fr2, fr3⟩ := byte_mod z hz0 hz1
      obtain ⟨G, hG⟩ : ∃ G, gapsL[r]? = some G := ⟨_, List.getElem?_eq_getElem (by show r < 4; exact hr4)⟩
      obtain ⟨hgok, hg6⟩ := gap_ok (List.mem_of_getElem? hG)
      have HGO := hide hgok
      have HGC := hide (fun W => gap_cells W r G hG)
      obtain ⟨sg, hsg⟩ : ∃ sg, strL G = sg := ⟨_, rfl⟩
      have HSG := hide hsg
      have hsgz : sg.size ≤ 6 := by rw [← hsg, strL_size]; exact hg6
      have hr0i : (0 : Int) ≤ (r : Int) := by omega
      have hr4i : (r : Int) < 4 := by omega
      rw [hsg] at HGC
      clear hR hrun hlen hG hgok hsg
      go_enter Tryd.func6, Tryd.ntmps6
      go_wp2_with fail
      refine (QT.out _ HM.out).mono ?_
      rintro e w2 ⟨v1, rfl, hb, hown⟩
      obtain ⟨A1, c1, rfl, hs1⟩ := toks_at hown
      have HM2 := hide (max_kept (max_kept HM.out hb) (Bel.one w2 gapObj))
      have HS1 := hide (hs1.kept (Bel.one w2 gapObj))
      have HB0 := hide (hb.alloc hb.size gapObj)
      have hcell := HGC.out w2
      clear hown hs1 hb QT HM HGC
      have hz00 : ((0 : Nat) : Int) = 0 := rfl
      simp only [hn, hz00] at HS1 ⊢
      clear hn hz00
      go_upto_region 7 with (fail)
      generalize w2.alloc (.cells #[.string { data := #[32] }, .string { data := #[10] }, .string { data := #[9, 13, 32] }, .string { data := #[32, 45, 45, 120, 39, 10] }] 9) = w3 at *
      clear hcell fr1 fr2 fr3 hr0i hr4i
      go_wp2_with fail
      go_loopw [9, 10] (fun tv iv wr => ∃ (k : Nat) (T : List UInt8), tv = .string (strL T) ∧ iv = .int .i64 k ∧ k ≤ n ∧ Hid (JoinAt s.data.toList G xs k T) ∧ ∃ q : Nat, wr = w3.drewN q) (fun _ iv _ => n - (intOf iv).toNat)
      case atStart => exact ⟨0, [], rfl, rfl, Nat.zero_le _, ⟨rfl, Nat.zero_le _⟩, 0, rfl⟩
      case round =>
        obtain ⟨k, T, rfl, rfl, hk, HJ, q, rfl⟩ := hrel
        have hTl := HJ.out.2
        have hTs := strL_size T
        by_cases hlt : k < n
        · have hlti : (k : Int) < n := by omega
          have hwk : IntKind.i64.wrap ((k : Int) + 1) = (k : Int) + 1 := IntWalk.i64_in _ (by omega)
          obtain ⟨blk, off, x, rfl, _, hx, hc⟩ := HS1.out.at (by omega) hlt
          obtain ⟨x1, x2⟩ := HRM.out k x hx
          rw [hl] at x2
          have HJ2 := hide (joinAt_next HJ.out hx hg6 (by omega))
          have l1 := hc 1 _ rfl
          have l2 := hc 2 _ rfl
          rw [← Nat.add_assoc] at l1 l2
          obtain ⟨b, K, S, N, U, E⟩ := x
          simp only at x1 x2 l1 l2
          obtain ⟨e2, he2⟩ : ∃ e2, b + S = e2 := ⟨_, rfl⟩
          have hex : s.extract b e2 = strL (pieceL s.data.toList ⟨b, ⟨K, S, N, U, E⟩⟩) := by rw [strL_extract, ← he2, Nat.add_sub_cancel_left]; rfl
          have hpz := strL_size (pieceL s.data.toList ⟨b, ⟨K, S, N, U, E⟩⟩)
          have hpz2 : (pieceL s.data.toList ⟨b, ⟨K, S, N, U, E⟩⟩).length ≤ S := by unfold pieceL; rw [List.length_take]; exact Nat.min_le_left _ _
          have ha1 := strL_app (pieceL s.data.toList ⟨b, ⟨K, S, N, U, E⟩⟩) G
          have ha2 := strL_app T (pieceL s.data.toList ⟨b, ⟨K, S, N, U, E⟩⟩ ++ G)
          rw [← ha1, HSG.out] at ha2
          have HA2 := hide ha2
          obtain ⟨d, hd⟩ : ∃ d, s.size - b = d := ⟨_, rfl⟩
          have b0 : ¬ (b : Int) < 0 := by omega
          have b2 : ¬ (S : Int) < 1 := by omega
          have b4 : ¬ (s.size : Int) < (b : Int) := by omega
          have f1 : IntKind.i64.wrap ((s.size : Int) - (b : Int)) = (d : Int) := by rw [IntWalk.i64_in _ (by omega)]; omega
          have f1' : (s.size : Int) - (b : Int) = (d : Int) := by omega
          have f1w : IntKind.i64.wrap (d : Int) = (d : Int) := IntWalk.i64_in _ (by omega)
          have b3 : ¬ (d : Int) < (S : Int) := by omega
          have f2 : IntKind.i64.wrap ((b : Int) + (S : Int)) = (e2 : Int) := by rw [IntWalk.i64_in _ (by omega)]; omega
          have f2' : (b : Int) + (S : Int) = (e2 : Int) := by omega
          have f2w : IntKind.i64.wrap (e2 : Int) = (e2 : Int) := IntWalk.i64_in _ (by omega)
          have s1 : b ≤ e2 := by omega
          have s2 : e2 ≤ s.size := by omega
          have s3 : (b : Int) ≤ (e2 : Int) := by omega
          have s4 : (e2 : Int) ≤ (s.size : Int) := by omega
          obtain ⟨sp, hsp⟩ : ∃ sp, strL (pieceL s.data.toList ⟨b, ⟨K, S, N, U, E⟩⟩) = sp := ⟨_, rfl⟩
          obtain ⟨sT, hsT⟩ : ∃ sT, strL T = sT := ⟨_, rfl⟩
          rw [hsp] at hex hpz HA2
          rw [hsT] at hTs HA2 ⊢
          have z1 : (sp.size : Int) ≤ 300 := by omega
          have z2 : (sg.size : Int) ≤ 6 := by omega
          have z3 : (sT.size : Int) ≤ 91800 := by omega
          have z4 : ((sp ++ sg).size : Int) ≤ 306 := by rw [ByteArray.size_append]; omega
          clear hc hx x1 x2 ha1 ha2 hpz hpz2 hTl hTs hsp hsT hd he2 HJ
          go_upto_region 11 with (fail)
          go_quiet (fail)
          go_upto_region 13 with (fail)
          go_quiet (fail)
          go_wp2_with fail
          go_roundw
          case rel => exact ⟨k + 1, _, by rw [← HA2.out], by go_num, by omega, HJ2, _, by first | rfl | simp only [World.drewN_drewN]⟩
          case measure => simp [intOf]; omega
        · have hlti : ¬ (k : Int) < n := by omega
          obtain ⟨hT1, _⟩ := HJ.out
          rw [List.take_of_length_le (by rw [HNN.out]; omega)] at hT1
          by_cases h2000 : 2000 < T.length
          · have h2i : (2000 : Int) < ((strL T).size : Int) := by omega
            obtain ⟨sT, hsT⟩ : ∃ sT, strL T = sT := ⟨_, rfl⟩
            rw [hsT] at h2i ⊢
            have HMq : Hid (∃ m, (w3.drewN q).cell? ⟨1, 0, none⟩ = some (.int .i64 m)) := HM2.out
            clear hT1 HJ hTs hTl hsT
            go_wp2_with fail
            refine (awake_c _ HMq.out).mono ?_
            rintro e w4 ⟨rfl, hb⟩
            go_wp2_with fail
            go_ret
            exact ⟨rfl, Bel.then (Bel.drewN HB0.out q) hb⟩
          · have h2i : ¬ (2000 : Int) < ((strL T).size : Int) := by omega
            have htj := toks_joined HGO.out HR0.out (by rw [← hT1]; omega)
            rw [← hT1] at htj
            have hT2 := fun W h => tokens_c (strL T) W h (by omega)
            rw [strL_list, htj] at hT2
            have QT2 := hide hT2
            obtain ⟨ys, hys⟩ : ∃ ys, shiftG G 0 xs = ys := ⟨_, rfl⟩
            have hyl : ys.length = n := by rw [← hys, shift_len]; exact HNN.out
            have HYS : Hid (∀ (i : Nat) (x : TokA), xs[i]? = some x → ∃ q, ys[i]? = some (TokA.mk q x.t)) := by rw [← hys]; exact shift_at G 0 xs
            rw [hys] at QT2
            obtain ⟨sT, hsT⟩ : ∃ sT, strL T = sT := ⟨_, rfl⟩
            rw [hsT] at h2i QT2 ⊢
            have HMq : Hid (∃ m, (w3.drewN q).cell? ⟨1, 0, none⟩ = some (.int .i64 m)) := HM2.out
            have HBq := hide (Bel.drewN HB0.out q)
            have HSq : Hid (SlAt tokCells 5 (w3.drewN q) (w3.drewN q).heap.size A1 n c1 xs) := HS1.out.kept (Bel.drewN (Below.refl _ _) q)
            have hne : (n != n) = false := by simp
            clear hT1 HJ hTs hTl hsT htj hT2 hys HM2 HB0 HS1
            generalize w3.drewN q = w4 at *
            go_wp2_with fail
            refine (QT2.out _ HMq.out).mono ?_
            rintro e w5 ⟨v2, rfl, hb, hown⟩
            obtain ⟨A2, c2, rfl, hs2⟩ := toks_at hown
            have HM5 := hide (max_kept HMq.out hb)
            have HS5 := hide (HSq.out.kept hb)
            have HS6 := hide hs2
            have HB5 := hide (Bel.then HBq.out hb)
            have hz00 : ((0 : Nat) : Int) = 0 := rfl
            simp only [hyl, hz00] at HS6 ⊢
            clear hown hs2 hb QT2 HMq HSq HBq hz00
            go_wp2_with fail
            go_loopw [14] (fun iv wr => ∃ (i q : Nat), iv = .int .i64 i ∧ i ≤ n ∧ wr = w5.drewN q) (fun iv _ => n - (intOf iv).toNat)
            case atStart => exact ⟨0, 0, rfl, Nat.zero_le _, rfl⟩
            case round =>
              obtain ⟨i, q, rfl, hi, rfl⟩ := hrel
              by_cases hlt2 : i < n
              · have hlti2 : (i : Int) < n := by omega
                have hwi : IntKind.i64.wrap ((i : Int) + 1) = (i : Int) + 1 := IntWalk.i64_in _ (by omega)
                obtain ⟨blk, off, x, rfl, _, hx, hc⟩ := HS5.out.at (by omega) hlt2
                obtain ⟨blk2, off2, y, rfl, _, hy, hc2⟩ := HS6.out.at (by omega) hlt2
                obtain ⟨q2, hq2⟩ := HYS.out i x hx
                rw [hy] at hq2
                injection hq2 with hq2
                subst hq2
                have l0 := hc 0 _ rfl
                have l2 := hc 2 _ rfl
                have l3 := hc 3 _ rfl
                have l4 := hc 4 _ rfl
                have m0 := hc2 0 _ rfl
                have m2 := hc2 2 _ rfl
                have m3 := hc2 3 _ rfl
                have m4 := hc2 4 _ rfl
                rw [Nat.add_zero] at l0 m0
                rw [← Nat.add_assoc] at l2 l3 l4 m2 m3 m4
                obtain ⟨b, K, S, N, U, E⟩ := x
                simp only at l0 l2 l3 l4 m0 m2 m3 m4
                obtain ⟨sU, hsU⟩ : ∃ sU, strL U = sU := ⟨_, rfl⟩
                rw [hsU] at l4 m4
                have hself : (sU.toList == sU.toList) = true := beq_self_eq_true _
                clear hc hc2 hx hy hsU
                go_upto_region 22 with (fail)
                go_quiet (fail)
                go_wp2_with fail
                go_roundw
                case rel => exact ⟨i + 1, _, by go_num, by omega, by first | rfl | simp only [World.drewN_drewN]⟩
                case measure => simp [intOf]; omega
              · have hlti2 : ¬ (i : Int) < n := by omega
                have HMq : Hid (∃ m, (w5.drewN q).cell? ⟨1, 0, none⟩ = some (.int .i64 m)) := HM5.out
                go_wp2_with fail
                refine (awake_c _ HMq.out).mono ?_
                rintro e w6 ⟨rfl, hb⟩
                go_wp2_with fail
                go_ret
                exact ⟨rfl, Bel.then (Bel.drewN HB5.out q) hb⟩
    · obtain ⟨rfl, hP⟩ := toksS_err (by omega) hR hE
      have hEi : ((E : Int) == 0) = false := by rw [beq_eq_false_iff_ne]; omega
      have hEi2 : ((E : Int) != 0) = true := by rw [bne, hEi]; rfl
      clear hR
      go_enter Tryd.func6, Tryd.ntmps6
      go_wp2_with fail
      refine (QT.out _ HM.out).mono ?_
      rintro e w2 ⟨v1, rfl, hb, hown⟩
      obtain ⟨A1, c1, rfl, hs1⟩ := toks_at hown
      have HM2 := hide (max_kept HM.out hb)
      have HB0 := hide hb
      clear hown hs1 hb QT HM
      simp only [List.length_nil]
      go_wp2_with fail
      refine (awake_c _ HM2.out).mono ?_
      rintro e w3 ⟨rfl, hb⟩
      go_wp2_with fail
      go_ret
      exact ⟨rfl, Bel.then HB0.out hb⟩
end Go.Proofs.YtcmhnaanfkpheaaDoor
