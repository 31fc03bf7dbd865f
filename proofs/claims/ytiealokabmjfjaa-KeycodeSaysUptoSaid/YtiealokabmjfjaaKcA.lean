/- Contracts: a value's key bytes into a builder, a row's key bytes. -/
import Derived.Test.YtiealokabmjfjaaKcM
import Derived.Test.YtiealokabmjfjaaRcB
import Derived.Handy
namespace Go.Proofs.Ytiealokabmjfjaa
set_option linter.unusedVariables false
open Go.ChangeShapes Go.WideShapes Go.ChangeAt Go.RowKit

def strL (l : List UInt8) : ByteArray := ⟨l.toArray⟩
set_option maxRecDepth 100000 in
set_option maxHeartbeats 2000000 in
theorem put_c (B b : Nat) (l : List UInt8) (v : ValV) (w : World) (hv : rightP v = true) (h : BldAt w B b l) (hl : l.length ≤ 1000000000) (hB : B ≤ w.heap.size) :
    Calls Try.prog 24 #[.pointer (some ⟨b, 0, none⟩), valAgg v] w (Puts B b (l ++ encK v) w) := by
  have hlt := h.lt
  rcases right_kinds hv with rfl | rfl | rfl | ⟨n, rfl, hn⟩ | ⟨s, rfl, hs⟩
  · have Q := hide (fun W hW => bld_byteZ B b l 0 0 W rfl (h.kept hW) (by omega) (Nat.le_trans hB hW.size))
    clear h hv
    rw [ek_null]
    unfold valAgg
    go_enter Try.func24, Try.ntmps24
    go_wp2_with fail
    refine (Q.out _ (Bel.one _ _)).mono ?_
    rintro e w1 ⟨rfl, h1, hb1, hk1⟩
    obtain ⟨c0, c1, c2⟩ := (VBox.others (vbox_new w ⟨0, 0, .empty⟩) hk1 hlt).cells
    have HX := hide (VBox.others (vbox_new w ⟨0, 0, .empty⟩) hk1 hlt)
    simp only at c0 c1 c2
    have H1 := hide h1
    have HB1 := hide (((Below.refl B w).alloc hB _).trans hb1)
    clear h1 hb1 Q hk1
    go_wp2_with fail
    go_end0
    exact ⟨rfl, H1.out, HB1.out⟩
  · have Q := hide (fun W hW => bld_byteZ B b l 1 1 W rfl (h.kept hW) (by omega) (Nat.le_trans hB hW.size))
    clear h hv
    rw [ek_false]
    unfold valAgg
    go_enter Try.func24, Try.ntmps24
    go_wp2_with fail
    refine (Q.out _ (Bel.one _ _)).mono ?_
    rintro e w1 ⟨rfl, h1, hb1, hk1⟩
    obtain ⟨c0, c1, c2⟩ := (VBox.others (vbox_new w ⟨1, 0, .empty⟩) hk1 hlt).cells
    have HX := hide (VBox.others (vbox_new w ⟨1, 0, .empty⟩) hk1 hlt)
    simp only at c0 c1 c2
    have H1 := hide h1
    have HB1 := hide (((Below.refl B w).alloc hB _).trans hb1)
    clear h1 hb1 Q hk1
    go_wp2_with fail
    have Q2 := hide (bld_byteZ B b _ 0 0 w1 rfl H1.out (by simp; omega) (Nat.le_trans hB HB1.out.size))
    refine Q2.out.mono ?_
    rintro e w2 ⟨rfl, h2, hb2, hk2⟩
    have H2 := hide h2
    have HB2 := hide (HB1.out.trans hb2)
    clear h2 hb2 hk2 Q2
    go_wp2_with fail
    go_end0
    exact ⟨rfl, by have := H2.out; simpa using this, HB2.out⟩
  · have Q := hide (fun W hW => bld_byteZ B b l 1 1 W rfl (h.kept hW) (by omega) (Nat.le_trans hB hW.size))
    clear h hv
    rw [ek_true]
    unfold valAgg
    go_enter Try.func24, Try.ntmps24
    go_wp2_with fail
    refine (Q.out _ (Bel.one _ _)).mono ?_
    rintro e w1 ⟨rfl, h1, hb1, hk1⟩
    obtain ⟨c0, c1, c2⟩ := (VBox.others (vbox_new w ⟨1, 1, .empty⟩) hk1 hlt).cells
    have HX := hide (VBox.others (vbox_new w ⟨1, 1, .empty⟩) hk1 hlt)
    simp only at c0 c1 c2
    have H1 := hide h1
    have HB1 := hide (((Below.refl B w).alloc hB _).trans hb1)
    clear h1 hb1 Q hk1
    go_wp2_with fail
    have Q2 := hide (bld_byteZ B b _ 1 1 w1 rfl H1.out (by simp; omega) (Nat.le_trans hB HB1.out.size))
    refine Q2.out.mono ?_
    rintro e w2 ⟨rfl, h2, hb2, hk2⟩
    have H2 := hide h2
    have HB2 := hide (HB1.out.trans hb2)
    clear h2 hb2 hk2 Q2
    go_wp2_with fail
    go_end0
    exact ⟨rfl, by have := H2.out; simpa using this, HB2.out⟩
  · clear hn
    have Q := hide (fun W hW => bld_byteZ B b l 2 2 W rfl (h.kept hW) (by omega) (Nat.le_trans hB hW.size))
    clear h hv
    rw [ek_num]
    unfold valAgg
    go_enter Try.func24, Try.ntmps24
    go_wp2_with fail
    refine (Q.out _ (Bel.one _ _)).mono ?_
    rintro e w1 ⟨rfl, h1, hb1, hk1⟩
    obtain ⟨c0, c1, c2⟩ := (VBox.others (vbox_new w ⟨2, n, .empty⟩) hk1 hlt).cells
    have HX := hide (VBox.others (vbox_new w ⟨2, n, .empty⟩) hk1 hlt)
    simp only at c0 c1 c2
    have H1 := hide h1
    have HB1 := hide (((Below.refl B w).alloc hB _).trans hb1)
    clear h1 hb1 Q hk1
    go_wp2_with fail
    refine wp_loop_rounds 9 ?_
    clear c0 c1 c2 HX
    have HK := hide (key8_u n)
    generalize IntKind.u64.wrap (IntKind.u64.wrap n + 9223372036854775808) = u at *
    rw [word8_all] at HK
    rw [rounds_succ]
    go_wp2_with fail
    have Q2 := hide (bld_byteZ B b _ (byteOf (u / 72057594037927936 % 256)) (u / 72057594037927936 % 256) w1 (byteOf_toNat (u / 72057594037927936)).symm H1.out (by simp; omega) (Nat.le_trans hB HB1.out.size))
    refine Q2.out.mono ?_
    rintro e w2 ⟨rfl, h2, hb2, hk2⟩
    have H2 := hide h2
    have HB2 := hide (HB1.out.trans hb2)
    clear h2 hb2 hk2 Q2 H1 HB1
    go_wp2_with fail
    rw [rounds_succ]
    go_wp2_with fail
    have Q3 := hide (bld_byteZ B b _ (byteOf (u / 281474976710656 % 256)) (u / 281474976710656 % 256) w2 (byteOf_toNat (u / 281474976710656)).symm H2.out (by simp; omega) (Nat.le_trans hB HB2.out.size))
    refine Q3.out.mono ?_
    rintro e w3 ⟨rfl, h2, hb2, hk2⟩
    have H3 := hide h2
    have HB3 := hide (HB2.out.trans hb2)
    clear h2 hb2 hk2 Q3 H2 HB2
    go_wp2_with fail
    rw [rounds_succ]
    go_wp2_with fail
    have Q4 := hide (bld_byteZ B b _ (byteOf (u / 1099511627776 % 256)) (u / 1099511627776 % 256) w3 (byteOf_toNat (u / 1099511627776)).symm H3.out (by simp; omega) (Nat.le_trans hB HB3.out.size))
    refine Q4.out.mono ?_
    rintro e w4 ⟨rfl, h2, hb2, hk2⟩
    have H4 := hide h2
    have HB4 := hide (HB3.out.trans hb2)
    clear h2 hb2 hk2 Q4 H3 HB3
    go_wp2_with fail
    rw [rounds_succ]
    go_wp2_with fail
    have Q5 := hide (bld_byteZ B b _ (byteOf (u / 4294967296 % 256)) (u / 4294967296 % 256) w4 (byteOf_toNat (u / 4294967296)).symm H4.out (by simp; omega) (Nat.le_trans hB HB4.out.size))
    refine Q5.out.mono ?_
    rintro e w5 ⟨rfl, h2, hb2, hk2⟩
    have H5 := hide h2
    have HB5 := hide (HB4.out.trans hb2)
    clear h2 hb2 hk2 Q5 H4 HB4
    go_wp2_with fail
    rw [rounds_succ]
    go_wp2_with fail
    have Q6 := hide (bld_byteZ B b _ (byteOf (u / 16777216 % 256)) (u / 16777216 % 256) w5 (byteOf_toNat (u / 16777216)).symm H5.out (by simp; omega) (Nat.le_trans hB HB5.out.size))
    refine Q6.out.mono ?_
    rintro e w6 ⟨rfl, h2, hb2, hk2⟩
    have H6 := hide h2
    have HB6 := hide (HB5.out.trans hb2)
    clear h2 hb2 hk2 Q6 H5 HB5
    go_wp2_with fail
    rw [rounds_succ]
    go_wp2_with fail
    have Q7 := hide (bld_byteZ B b _ (byteOf (u / 65536 % 256)) (u / 65536 % 256) w6 (byteOf_toNat (u / 65536)).symm H6.out (by simp; omega) (Nat.le_trans hB HB6.out.size))
    refine Q7.out.mono ?_
    rintro e w7 ⟨rfl, h2, hb2, hk2⟩
    have H7 := hide h2
    have HB7 := hide (HB6.out.trans hb2)
    clear h2 hb2 hk2 Q7 H6 HB6
    go_wp2_with fail
    rw [rounds_succ]
    go_wp2_with fail
    have Q8 := hide (bld_byteZ B b _ (byteOf (u / 256 % 256)) (u / 256 % 256) w7 (byteOf_toNat (u / 256)).symm H7.out (by simp; omega) (Nat.le_trans hB HB7.out.size))
    refine Q8.out.mono ?_
    rintro e w8 ⟨rfl, h2, hb2, hk2⟩
    have H8 := hide h2
    have HB8 := hide (HB7.out.trans hb2)
    clear h2 hb2 hk2 Q8 H7 HB7
    go_wp2_with fail
    rw [rounds_succ]
    go_wp2_with fail
    have Q9 := hide (bld_byteZ B b _ (byteOf (u % 256)) (u % 256) w8 (byteOf_toNat (u)).symm H8.out (by simp; omega) (Nat.le_trans hB HB8.out.size))
    refine Q9.out.mono ?_
    rintro e w9 ⟨rfl, h2, hb2, hk2⟩
    have H9 := hide h2
    have HB9 := hide (HB8.out.trans hb2)
    clear h2 hb2 hk2 Q9 H8 HB8
    go_wp2_with fail
    rw [rounds_succ]
    go_wp2_with fail
    go_end0
    exact ⟨rfl, by have := H9.out; rw [← HK.out]; simpa using this, HB9.out⟩
  · have hp := (plain_iff.1 hs).1
    clear hs
    have Q := hide (fun W hW => bld_byteZ B b l 3 3 W rfl (h.kept hW) (by omega) (Nat.le_trans hB hW.size))
    clear h hv
    rw [ek_text]
    unfold valAgg
    go_enter Try.func24, Try.ntmps24
    go_wp2_with fail
    refine (Q.out _ (Bel.one _ _)).mono ?_
    rintro e w1 ⟨rfl, h1, hb1, hk1⟩
    obtain ⟨c0, c1, c2⟩ := (VBox.others (vbox_new w ⟨3, 0, s⟩) hk1 hlt).cells
    have HX := hide (VBox.others (vbox_new w ⟨3, 0, s⟩) hk1 hlt)
    simp only at c0 c1 c2
    have H1 := hide h1
    have HB1 := hide (((Below.refl B w).alloc hB _).trans hb1)
    clear h1 hb1 Q hk1
    go_wp2_with fail
    have Q2 := hide (bld_strZ B b _ s w1 H1.out (by simp; omega) (Nat.le_trans hB HB1.out.size))
    refine Q2.out.mono ?_
    rintro e w2 ⟨rfl, h2, hb2, hk2⟩
    have H2 := hide h2
    have HB2 := hide (HB1.out.trans hb2)
    clear h2 hb2 hk2 Q2
    go_wp2_with fail
    have Q3 := hide (bld_byteZ B b _ 0 0 w2 rfl H2.out (by have := str_len s; simp; omega) (Nat.le_trans hB HB2.out.size))
    refine Q3.out.mono ?_
    rintro e w3 ⟨rfl, h3, hb3, hk3⟩
    have H3 := hide h3
    have HB3 := hide (HB2.out.trans hb3)
    clear h3 hb3 hk3 Q3
    go_wp2_with fail
    go_end0
    exact ⟨rfl, by have := H3.out; simpa using this, HB3.out⟩
theorem bytesK_take_len {r : List ValV} (h : r.all rightP = true) (k : Nat) : (bytesK (r.take k)).length ≤ 102 * r.length := by
  have h2 : (r.take k).all rightP = true := by rw [List.all_eq_true]; exact fun x hx => List.all_eq_true.1 h x (List.mem_of_mem_take hx)
  have h3 := bytesK_len _ h2
  rw [List.length_take] at h3
  omega
/-- What Put gives. -/
def GivesB (w : World) (l : List UInt8) (e : Ending) (w' : World) : Prop := e = .returned (.string (strL l)) ∧ Below w.heap.size w w'
set_option maxRecDepth 100000 in
set_option maxHeartbeats 1000000 in
theorem putKW_c (A : Option Addr) (n c : Nat) (r : List ValV) (w : World) (h : RowAt w w.heap.size A n c r) (hn : n ≤ 4194304) (hr : ∀ a ∈ r, OkV a) :
    Calls Try.prog 13 #[.slice A n c] w (GivesB w (putK r)) := by
  have Q := hide (rightsW_c A n c r w h hn hr)
  have H := hide h
  have HL := hide h.len
  clear h hr
  unfold putK
  cases hall : r.all rightP
  · rw [hall] at Q
    rw [if_neg (by simp)]
    go_enter Try.func13, Try.ntmps13
    go_wp2_with fail
    refine Q.out.mono ?_
    rintro e w1 ⟨rfl, hb⟩
    have HB := hide hb
    clear hb
    go_wp2_with fail
    go_ret
    exact ⟨rfl, HB.out⟩
  · rw [hall] at Q
    rw [if_pos rfl]
    have HO := hide hall
    clear hall
    go_enter Try.func13, Try.ntmps13
    go_wp2_with fail
    refine Q.out.mono ?_
    rintro e w2 ⟨rfl, hb⟩
    have HB2 := hide hb
    clear hb Q
    have H3 := hide (bld_new w2)
    have HB3 := hide ((Below.refl w2.heap.size w2).alloc (Nat.le_refl _) (.cells #[.pointer none, .slice none 0 0] 48))
    obtain ⟨g, hg⟩ : ∃ g, Hid (w2.heap.size = g) := ⟨_, rfl⟩
    rw [hg.out] at H3 HB3
    go_wp2_with fail
    simp only [hg.out]

    go_loopw [11] (fun i wr => ∃ k : Nat, k ≤ n ∧ i = .int .i64 k ∧ Hid (BldAt wr g g (bytesK (r.take k))) ∧ Hid (Below g w2 wr)) (fun i _ => n - (intOf i).toNat)
    case atStart => exact ⟨0, Nat.zero_le _, rfl, H3, HB3⟩
    case round =>
      obtain ⟨k, hk, rfl, HK, HB⟩ := hrel
      have hsize : g ≤ wr.heap.size := by have := HB.out.size; have := hg.out; omega
      by_cases hlt : k < n
      · obtain ⟨b, off, v, rfl, hb, hv, hc0, hc1, hc2⟩ := RowAt.val (H.out.below (HB2.out.trans (HB.out.mono (by rw [← hg.out]; exact HB2.out.size)))) hlt
        have hrv : rightP v = true := List.all_eq_true.1 HO.out v (List.mem_of_getElem? hv)
        have hlen : (bytesK (r.take k)).length ≤ 1000000000 := by
          have := bytesK_take_len HO.out k
          have := HL.out
          omega
        have ht := take_at hv
        have HT := hide (show bytesK (r.take k) ++ encK v = bytesK (r.take (k + 1)) by rw [ht, bytesK_snoc])
        have Q := hide (fun W (hW : Below wr.heap.size wr W) => put_c g g (bytesK (r.take k)) v W hrv (HK.out.kept hW) hlen (Nat.le_trans hsize hW.size))
        rw [HT.out] at Q
        clear hv hrv ht HK HT hlen
        obtain ⟨vk, vn, vs⟩ := v
        simp only [valAgg] at Q hc0 hc1 hc2
        go_wp2_with fail
        refine (Q.out _ (by first | exact Below.refl _ _ | exact Bel.one _ _)).mono ?_
        rintro e w4 ⟨rfl, h4, hb4⟩
        have H4 := hide h4
        have HB4 := hide (HB.out.trans (((Below.refl g wr).alloc hsize _).trans hb4))
        clear h4 hb4
        go_wp2_with fail
        go_roundw
        case rel => exact ⟨k + 1, by omega, by go_num, H4, HB4⟩
        case measure => simp [intOf]; omega
      · obtain rfl : k = n := by omega
        have e : r.take k = r := by rw [← HL.out, List.take_length]
        rw [e] at HK
        have QG := hide (bld_get g g _ wr HK.out hsize)
        have HR := hide (show (⟨(bytesK r).toArray⟩ : ByteArray) = strL (bytesK r) from rfl)
        rw [HR.out] at QG
        clear HK HR e
        go_wp2_with fail
        refine QG.out.mono ?_
        rintro e w5 ⟨rfl, _, hb5, _⟩
        have HB5 := hide (HB.out.trans hb5)
        clear hb5 QG
        go_wp2_with fail
        go_ret
        exact ⟨rfl, HB2.out.trans (HB5.out.mono (by rw [← hg.out]; exact HB2.out.size))⟩
theorem putK_c (A : Option Addr) (n c : Nat) (r : List ValV) (w : World) (h : RowAt w w.heap.size A n c r) (hn : n ≤ 1048576) (hr : ∀ a ∈ r, OkV a) :
    Calls Try.prog 13 #[.slice A n c] w (GivesB w (putK r)) := putKW_c A n c r w h (by omega) hr
end Go.Proofs.Ytiealokabmjfjaa
