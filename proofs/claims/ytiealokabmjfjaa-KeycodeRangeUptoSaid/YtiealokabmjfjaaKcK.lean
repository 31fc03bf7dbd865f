/- The walk of KeycodeRange. -/
import Derived.Test.YtiealokabmjfjaaKcJ
import Derived.BigRegion
namespace Go.Proofs.Ytiealokabmjfjaa
set_option linter.unusedVariables false
open Go.ChangeShapes Go.WideShapes Go.ChangeAt Go.RowKit

theorem cmpT_strL (l m : List UInt8) : cmpT (strL l) (strL m) = cb l m := rfl
theorem val_ones (r : List ValV) : ∀ u ∈ (r.map valCells).flatten, u.oneCell' = true := by
  intro v hv
  obtain ⟨xs, hx, hvx⟩ := List.mem_flatten.1 hv
  obtain ⟨a, _, rfl⟩ := List.mem_map.1 hx
  simp [valCells] at hvx
  rcases hvx with rfl | rfl | rfl <;> rfl
theorem val_flat (r : List ValV) : (r.map valCells).flatten.length = r.length * 3 := by
  rw [flat_len _ 3 (by intro xs hx; obtain ⟨a, _, rfl⟩ := List.mem_map.1 hx; exact valCells_len a), List.length_map]
set_option maxRecDepth 100000 in
set_option maxHeartbeats 4000000 in
theorem range_w (A B C : Option Addr) (n c m d k e : Nat) (a b s : List ValV) (w : World) (h : RowAt w w.heap.size A n c a) (g : RowAt w w.heap.size B m d b) (f : RowAt w w.heap.size C k e s) (hn : n ≤ 1048576) (hm : m ≤ 1048576) (hk : k ≤ 1048576) (ha : ∀ v ∈ a, OkV v) (hb : ∀ v ∈ b, OkV v) (hs : ∀ v ∈ s, OkV v) :
    Calls Try.prog 7 #[.slice A n c, .slice B m d, .slice C k e] w fun e w' => e = .returned (.bool true) ∧ Below w.heap.size w w' := by
  have hla := h.len
  have hls := f.len
  have hlb := g.len
  have hmd := g.cap
  have hA := h.nil
  have hC := f.nil
  subst hla hls
  obtain ⟨i0, hi0, hz0, hz1, hz2⟩ := info_parts value_info
  have QA := hide (fun W => awakeK_c W)
  have QR1 := hide (rights_c A a.length c a w h hn ha)
  have QR2 := hide (fun (W : World) (hW : Below w.heap.size w W) => rights_c B m d b W (g.kept hW) hm hb)
  have QR3 := hide (fun (W : World) (hW : Below w.heap.size w W) => rights_c C s.length e s W (f.kept hW) hk hs)
  cases h1 : a.all rightP
  · rw [h1] at QR1
    clear h1 h g f ha hb hs
    go_enter Try.func7, Try.ntmps7
    go_wp2_with fail
    refine QR1.out.mono ?_
    rintro e w1 ⟨rfl, hb⟩
    have HB1 := hide hb
    clear hb
    go_wp2_with fail
    refine (QA.out _).mono ?_
    rintro e w9 ⟨rfl, hb⟩
    have HB9 := hide (Bel.then HB1.out hb)
    clear hb HB1
    go_wp2_with fail
    go_ret
    exact ⟨ret_bool (by first | rfl | (simp; done) | (simp; omega)), HB9.out⟩
  · cases h2 : b.all rightP
    · rw [h1] at QR1
      rw [h2] at QR2
      clear h1 h2 h g f ha hb hs
      go_enter Try.func7, Try.ntmps7
      go_wp2_with fail
      refine QR1.out.mono ?_
      rintro e w1 ⟨rfl, hb⟩
      have HB1 := hide hb
      clear hb
      go_wp2_with fail
      refine (QR2.out _ HB1.out).mono ?_
      rintro e w2 ⟨rfl, hb⟩
      have HB2 := hide (Bel.then HB1.out hb)
      clear hb HB1
      go_wp2_with fail
      refine (QA.out _).mono ?_
      rintro e w9 ⟨rfl, hb⟩
      have HB9 := hide (Bel.then HB2.out hb)
      clear hb HB2
      go_wp2_with fail
      go_ret
      exact ⟨ret_bool (by first | rfl | (simp; done) | (simp; omega)), HB9.out⟩
    · cases h3 : s.all rightP
      · rw [h1] at QR1
        rw [h2] at QR2
        rw [h3] at QR3
        clear h1 h2 h3 h g f ha hb hs
        go_enter Try.func7, Try.ntmps7
        go_wp2_with fail
        refine QR1.out.mono ?_
        rintro e w1 ⟨rfl, hb⟩
        have HB1 := hide hb
        clear hb
        go_wp2_with fail
        refine (QR2.out _ HB1.out).mono ?_
        rintro e w2 ⟨rfl, hb⟩
        have HB2 := hide (Bel.then HB1.out hb)
        clear hb HB1
        go_wp2_with fail
        refine (QR3.out _ HB2.out).mono ?_
        rintro e w3 ⟨rfl, hb⟩
        have HB3 := hide (Bel.then HB2.out hb)
        clear hb HB2
        go_wp2_with fail
        refine (QA.out _).mono ?_
        rintro e w9 ⟨rfl, hb⟩
        have HB9 := hide (Bel.then HB3.out hb)
        clear hb HB3
        go_wp2_with fail
        go_ret
        exact ⟨ret_bool (by first | rfl | (simp; done) | (simp; omega)), HB9.out⟩
      · rw [h1] at QR1
        rw [h2] at QR2
        rw [h3] at QR3
        by_cases h0 : a.length = 0
        · have hnz : ((a.length : Int) == 0) = true := by simp [h0]
          clear h1 h2 h3 h g f ha hb hs h0
          go_enter Try.func7, Try.ntmps7
          go_wp2_with fail
          refine QR1.out.mono ?_
          rintro e w1 ⟨rfl, hb⟩
          have HB1 := hide hb
          clear hb
          go_wp2_with fail
          refine (QR2.out _ HB1.out).mono ?_
          rintro e w2 ⟨rfl, hb⟩
          have HB2 := hide (Bel.then HB1.out hb)
          clear hb HB1
          go_wp2_with fail
          refine (QR3.out _ HB2.out).mono ?_
          rintro e w3 ⟨rfl, hb⟩
          have HB3 := hide (Bel.then HB2.out hb)
          clear hb HB2
          go_wp2_with fail
          refine (QA.out _).mono ?_
          rintro e w9 ⟨rfl, hb⟩
          have HB9 := hide (Bel.then HB3.out hb)
          clear hb HB3
          go_wp2_with fail
          go_ret
          exact ⟨ret_bool (by first | rfl | (simp; done) | (simp; omega)), HB9.out⟩
        · have hnz : ((a.length : Int) == 0) = false := by simp; intro e; exact h0 (by rw [e]; rfl)
          have h13 : (a ++ s).all rightP = true := by rw [List.all_append, h1, h3]; rfl
          obtain ⟨hi, hhi⟩ := after_row h1 (by intro e; exact h0 (by rw [e]; rfl))
          have hr1 := row_range h1 h2 hhi
          have hr3 := (row_range h1 h13 hhi).1 (List.prefix_append a s)
          have hsz : (strL (bytesK a)).size ≤ 2000000000 := by rw [strL_size]; have := bytesK_len a h1; omega
          have QF := hide (fun W => after_c (strL (bytesK a)) W hsz)
          rw [show afterK (strL (bytesK a)).data.toList = some hi from hhi] at QF
          unfold GivesA at QF
          simp only [Option.getD_some, Option.isSome_some] at QF
          have QP1 := hide (fun (W : World) (hW : Below w.heap.size w W) => putK_c A a.length c a W (h.kept hW) hn ha)
          have QP2 := hide (fun (W : World) (hW : Below w.heap.size w W) => putK_c B m d b W (g.kept hW) hm hb)
          have QP3 := hide (fun (W : World) (A2 : Option Addr) (c2 : Nat) (h2 : RowAt W W.heap.size A2 (a.length + s.length) c2 (a ++ s)) => putKW_c A2 (a.length + s.length) c2 (a ++ s) W h2 (by omega) (by intro v hv; rcases List.mem_append.1 hv with hv | hv; (· exact ha v hv); (· exact hs v hv)))
          have QO := hide (fun (W : World) (hW : Below w.heap.size w W) (hle : a.length ≤ m) => orders_c (frontA d B) A a.length d a.length c (b.take a.length) a W (front_row hle (g.kept hW)) (h.kept hW))
          have QS1 := hide (fun W => sign_c (strL (bytesK b)) (strL (bytesK a)) W)
          have QS2 := hide (fun W => sign_c (strL (bytesK b)) (strL hi) W)
          have QS3 := hide (fun W => sign_c (strL (bytesK (a ++ s))) (strL (bytesK a)) W)
          have QS4 := hide (fun W => sign_c (strL (bytesK (a ++ s))) (strL hi) W)
          rw [cmpT_strL] at QS1 QS2 QS3 QS4
          rw [putK_yes h1] at QP1
          rw [putK_yes h2] at QP2
          rw [putK_yes h13] at QP3
          unfold GivesB at QP1 QP2 QP3
          have hcase : ((¬ (a.length : Int) ≤ m) ∧ ¬ a <+: b) ∨ ((a.length : Int) ≤ m ∧ (cmpR (b.take a.length) a == 0) = true ∧ a <+: b) ∨ ((a.length : Int) ≤ m ∧ (cmpR (b.take a.length) a == 0) = false ∧ ¬ a <+: b) := by
            by_cases hp : a <+: b
            · right; left
              have := hp.length_le
              refine ⟨by omega, ?_, hp⟩
              rw [beq_iff_eq, cmpR_zero]
              exact (List.prefix_iff_eq_take.1 hp).symm
            · by_cases hl : (a.length : Int) ≤ m
              · right; right
                refine ⟨hl, ?_, hp⟩
                rw [beq_eq_false_iff_ne]
                intro e
                exact hp (List.prefix_iff_eq_take.2 (cmpR_zero.1 e).symm)
              · exact .inl ⟨hl, hp⟩
          have HCA := hide (fun (W : World) (hW : Below w.heap.size w W) => (h.kept hW).recs.2)
          have HCS := hide (fun (W : World) (hW : Below w.heap.size w W) => (f.kept hW).recs.2)
          have hfa := val_flat a
          have hfs := val_flat s
          have hoa := hide (val_ones a)
          have hos := hide (val_ones s)
          have HAS := hide (show ([] ++ (a.map valCells).flatten) ++ (s.map valCells).flatten = ((a ++ s).map valCells).flatten by simp)
          have HLS := hide (show (0 + a.length) + s.length = (a ++ s).length by simp)
          have HFA := hide hfa
          have HFS := hide hfs
          have HFR := hide (fun (W : World) (hle : a.length ≤ m) => front_run (n := m) (A := B) (c := d) (k := a.length) (by omega) W)
          generalize cmpR (b.take a.length) a = yo at *
          generalize cb (bytesK b) (bytesK a) = y1 at *
          generalize cb (bytesK b) hi = y2 at *
          generalize cb (bytesK (a ++ s)) (bytesK a) = y3 at *
          generalize cb (bytesK (a ++ s)) hi = y4 at *
          generalize strL (bytesK a) = t1 at *
          generalize strL (bytesK b) = t2 at *
          generalize strL (bytesK (a ++ s)) = t3 at *
          generalize strL hi = t4 at *
          obtain ⟨hy3, hy4⟩ := hr3
          have hyz : (a <+: b ∧ 0 ≤ y1 ∧ y2 < 0) ∨ (¬ a <+: b ∧ ¬ 0 ≤ y1) ∨ (¬ a <+: b ∧ 0 ≤ y1 ∧ ¬ y2 < 0) := by
            by_cases hp : a <+: b
            · exact .inl ⟨hp, hr1.1 hp⟩
            · by_cases h0 : 0 ≤ y1
              · exact .inr (.inr ⟨hp, h0, fun h => hp (hr1.2 ⟨h0, h⟩)⟩)
              · exact .inr (.inl ⟨hp, h0⟩)
          have HYZ := hide hyz
          clear hyz hr1 hhi h1 h2 h3 h13 h g f ha hb hs h0 hsz hfa hfs hlb hmd
          rcases hcase with ⟨hle, hp⟩ | ⟨hle, hyo, hp⟩ | ⟨hle, hyo, hp⟩
          all_goals rcases HYZ.out with ⟨hq, hy1, hy2⟩ | ⟨hq, hy1⟩ | ⟨hq, hy1, hy2⟩
          all_goals first
            | exact absurd hq hp
            | exact absurd hp hq
            | skip
          all_goals
            clear hp hq HYZ
            try have hfr := fun W => HFR.out W (by omega)
            clear HFR
            go_enter Try.func7, Try.ntmps7
            go_wp2_with fail
            refine QR1.out.mono ?_
            rintro e w1 ⟨rfl, hb⟩
            have HB1 := hide hb
            clear hb
            go_wp2_with fail
            refine (QR2.out _ HB1.out).mono ?_
            rintro e w2 ⟨rfl, hb⟩
            have HB2 := hide (Bel.then HB1.out hb)
            clear hb HB1
            go_wp2_with fail
            refine (QR3.out _ HB2.out).mono ?_
            rintro e w3 ⟨rfl, hb⟩
            have HB3 := hide (Bel.then HB2.out hb)
            clear hb HB2
            go_wp2_with fail
            refine (QP1.out _ HB3.out).mono ?_
            rintro e w4 ⟨rfl, hb⟩
            have HB4 := hide (Bel.then HB3.out hb)
            clear hb HB3
            go_wp2_with fail
            refine (QF.out _).mono ?_
            rintro e w5 ⟨rfl, hb⟩
            have HB5 := hide (Bel.then HB4.out hb)
            clear hb HB4
            go_wp2_with fail
            refine (QP2.out _ HB5.out).mono ?_
            rintro e w6 ⟨rfl, hb⟩
            have HB6 := hide (Bel.then HB5.out hb)
            have HC1 := hide ((HCA.out w6 HB6.out).below (Bel.one w6 (.cells #[] 39)))
            have HC2 := hide (HCS.out w6 HB6.out)
            have hb0 := Bel.one w6 (.cells #[] 39)
            clear hb HB5
            go_wp2_with (first
              | (at_builtin; refine wpList_app rfl (.tmp 41) (.tmp 42) 23 rfl w6.heap.size 39 i0 _ 3 32 Try.underlying23 hi0 hz0 hz1 hz2 rfl (by omega) _ 0 [] rfl (World.ownsRow_lit _ _ 0 (Nat.le_refl _) (by simp only [maxLen]; omega) rfl) w6.heap.size A a.length c (a.map valCells).flatten rfl HFA.out HC1.out hoa.out (by simp only [maxLen]; omega) (by omega) (by simp) hA ?_; intro v1 w7 hown1 hg1 hat1; have hk1 := hide (own_next hat1 (own_new _ _ _ _ (Nat.le_refl _)) hb0.size); have hb1 := hide (own_grown hb0 hg1 (own_new _ _ _ _ (Nat.le_refl _))); have HO1 := hide hown1; clear hg1 hat1 hown1)
              | (at_builtin; refine wpList_app rfl (.tmp 43) (.tmp 44) 23 rfl w6.heap.size 39 i0 _ 3 32 Try.underlying23 hi0 hz0 hz1 hz2 rfl (by omega) v1 (0 + a.length) _ rfl HO1.out w6.heap.size C s.length e (s.map valCells).flatten rfl HFS.out (HC2.out.below hb1.out) hos.out (by simp only [maxLen]; omega) (by omega) hb1.out.size hC ?_; intro v2 w8 hown2 hg2 hat2
                 rw [HAS.out, HLS.out] at hown2
                 obtain ⟨A2, c2, hv2, hR2⟩ := sl_of_own hown2 valCells_len
                 rw [List.length_append] at hv2 hR2
                 subst hv2
                 have HB8 := hide (Bel.then HB6.out (own_grown hb1.out hg2 hk1.out))
                 have HR8 := hide hR2
                 clear hat2 hown2 hg2 hR2 hk1 hb1 HO1))
            refine (QP3.out _ _ _ HR8.out).mono ?_
            rintro e w9 ⟨rfl, hb⟩
            have HB9 := hide (Bel.then HB8.out hb)
            clear hb HB8 HR8
            go_wp2_with fail
            have HBx := HB9
            try
              (refine (QO.out _ HB9.out (by omega)).mono ?_
               rintro e w10 ⟨rfl, hb⟩
               have HBx := hide (Bel.then HB9.out hb)
               clear hb
               go_wp2_with fail)
            refine (QA.out _).mono ?_
            rintro e w11 ⟨rfl, hb⟩
            have HB11 := hide (Bel.then HBx.out hb)
            clear hb
            go_wp2_with fail
            refine (QS1.out _).mono ?_
            rintro e w12 ⟨rfl, hb⟩
            have HB12 := hide (Bel.then HB11.out hb)
            clear hb HB11
            go_wp2_with fail
            have HBy := HB12
            try
              (refine (QS2.out _).mono ?_
               rintro e w13 ⟨rfl, hb⟩
               have HBy := hide (Bel.then HB12.out hb)
               clear hb
               go_wp2_with fail)
            refine (QS3.out _).mono ?_
            rintro e w14 ⟨rfl, hb⟩
            have HB14 := hide (Bel.then HBy.out hb)
            clear hb
            go_wp2_with fail
            refine (QS4.out _).mono ?_
            rintro e w15 ⟨rfl, hb⟩
            have HB15 := hide (Bel.then HB14.out hb)
            clear hb HB14
            go_wp2_with fail
            go_ret
            exact ⟨ret_bool (by first | rfl | (simp; done) | (simp; omega)), HB15.out⟩
end Go.Proofs.Ytiealokabmjfjaa
