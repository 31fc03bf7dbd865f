/- The contract of the reference: a row's bytes. -/
import Derived.Test.YtiealokabmjfjaaKcQ
import Derived.Laws.BytesArg
import Derived.Laws.IdiomStrings
namespace Go.Proofs.Ytiealokabmjfjaa
set_option linter.unusedVariables false
open Go.ChangeShapes Go.WideShapes Go.ChangeAt Go.RowKit

theorem bs_text {W : World} {B n c : Nat} {A : Option Addr} {l : List UInt8} (h : BsAt W B A n c l) : (convert 43 9 (.slice A n c)).run Try.prog W = .ok (.string (strL l)) W := by
  have hl := h.len
  subst hl
  cases A with
  | none =>
    have h0 := h.nil rfl
    have : l = [] := List.eq_nil_of_length_eq_zero h0
    subst this
    exact run_convert_bytes_nil W 43 5 Try.underlying43 Try.underlying5 _ _ 9 Try.underlying9
  | some ad =>
    refine run_convert_bytes_back (P := Try.prog) W 43 9 5 ad c l Try.underlying43 Try.underlying5 Try.underlying9 ?_
    intro j hj
    obtain ⟨b, off, e, _, hc⟩ := h.recs.2 (by rw [bC_flen]; omega)
    injection e with e
    subst e
    rw [add_off]
    refine hc j _ ?_
    rw [bC_flat, List.getElem?_map, List.getElem?_eq_getElem hj]
    rfl
set_option maxRecDepth 100000 in
set_option maxHeartbeats 1000000 in
theorem rputK_c (A : Option Addr) (n c : Nat) (r : List ValV) (w : World) (h : RowAt w w.heap.size A n c r) (hn : n ≤ 1048576) (hr : ∀ a ∈ r, OkV a) :
    Calls Try.prog 14 #[.slice A n c] w (GivesB w (putK r)) := by
  obtain ⟨i0, hi0, hz0, hz1, hz2⟩ := info_parts u8_info
  have Q := hide (rrights_c A n c r w h hn hr)
  have H := hide h
  have HL := hide h.len
  clear h hr
  unfold putK
  cases hall : r.all rightP
  · rw [hall] at Q
    rw [if_neg (by simp)]
    go_enter Try.func14, Try.ntmps14
    go_wp2_with fail
    refine Q.out.mono ?_
    rintro e w1 ⟨rfl, hb⟩
    have HB := hide hb
    clear hb
    go_wp2_with fail
    go_ret
    exact ⟨rfl, HB.out⟩
  · rw [hall] at Q
    rw [if_pos rfl]
    have HO := hide hall
    clear hall
    go_enter Try.func14, Try.ntmps14
    go_wp2_with fail
    refine Q.out.mono ?_
    rintro e w2 ⟨rfl, hb⟩
    have HB2 := hide (Bel.alloc hb (.cells #[] 5))
    have HO2 := hide (show (w2.alloc (.cells #[] 5)).ownsRow w.heap.size 5 1 (.slice (some ⟨w2.heap.size, 0, none⟩) 0 0) 0 [] from World.ownsRow_lit w2 #[] 0 hb.size (by simp only [maxLen]; omega) rfl)
    clear hb Q
    go_wp2_with fail
    go_loopw [3, 4] (fun v i wr => ∃ k : Nat, k ≤ n ∧ i = .int .i64 k ∧ Hid (wr.ownsRow w.heap.size 5 1 v (bytesK (r.take k)).length ((bytesK (r.take k)).map bC).flatten) ∧ Hid (Below w.heap.size w wr)) (fun _ i _ => n - (intOf i).toNat)
    case atStart => exact ⟨0, Nat.zero_le _, rfl, HO2, HB2⟩
    case round =>
      clear HO2 HB2
      obtain ⟨k, hk, rfl, HK, HB⟩ := hrel
      by_cases hlt : k < n
      · obtain ⟨b, off, v, rfl, hb, hv, hc0, hc1, hc2⟩ := RowAt.val (H.out.below HB.out) hlt
        have hrv : rightP v = true := List.all_eq_true.1 HO.out v (List.mem_of_getElem? hv)
        have hlen : (bytesK (r.take k)).length ≤ 1000000000 := by
          have := bytesK_take_len HO.out k
          have := HL.out
          omega
        have ht := take_at hv
        have HT := hide (show bytesK (r.take k) ++ encK v = bytesK (r.take (k + 1)) by rw [ht, bytesK_snoc])
        have hel := (ek_len hrv).2
        have Q := hide (fun W => one_c v W hrv)
        unfold GivesBs at Q
        generalize encK v = le at *
        clear hv hrv ht
        obtain ⟨vk, vn, vs⟩ := v
        simp only [valAgg] at Q hc0 hc1 hc2
        have HLE := hide hlen
        have HEL := hide hel
        clear hlen hel
        go_wp2_with fail
        refine (Q.out _).mono ?_
        rintro e w4 ⟨A4, c4, rfl, h4, hb4⟩
        have H4 := hide h4
        have HB4 := hide (HB.out.trans (hb4.mono HB.out.size))
        have HO4 := hide (own_below HK.out hb4)
        clear h4 hb4 HK
        go_wp2_with (at_builtin; refine wpList_app rfl (.tmp 15) (.tmp 20) 43 rfl w.heap.size 5 i0 _ 1 1 Try.underlying43 hi0 hz0 hz1 hz2 rfl (by omega) _ (bytesK (r.take k)).length _ rfl HO4.out _ A4 le.length c4 (le.map bC).flatten rfl (bC_flen le) H4.out.recs.2 (bC_ones le) (by have := HLE.out; have := HEL.out; simp only [maxLen]; omega) (by have := HLE.out; have := HEL.out; omega) HB4.out.size H4.out.nil ?_; intro v5 w5 hown5 hg5 _)
        have HB5 := hide (HB4.out.grown hg5 HB4.out.size (own_lo HO4.out))
        rw [← List.flatten_append, ← List.map_append, ← List.length_append, HT.out] at hown5
        have HO5 := hide hown5
        clear hown5 hg5 HB4 HO4 H4 HT HLE HEL
        go_wp2_with fail
        go_roundw
        case rel => exact ⟨k + 1, by omega, by go_num, HO5, HB5⟩
        case measure => simp [intOf]; omega
      · obtain rfl : k = n := by omega
        have e : r.take k = r := by rw [← HL.out, List.take_length]
        rw [e] at HK
        obtain ⟨A6, c6, rfl, hS⟩ := sl_of_own HK.out bC_len
        have hcv := bs_text hS
        clear HK hS e
        generalize (bytesK r).length = n6 at *
        generalize ht6 : strL (bytesK r) = t6 at *
        have HT6 := hide ht6
        clear ht6
        go_wp2
        go_ret
        exact ⟨by rw [HT6.out]; rfl, HB.out⟩
end Go.Proofs.Ytiealokabmjfjaa
