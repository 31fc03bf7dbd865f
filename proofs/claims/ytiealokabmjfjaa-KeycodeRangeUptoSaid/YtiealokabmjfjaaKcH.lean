/- The walks of KeycodeAfter, KeycodeRises. -/
import Derived.Test.YtiealokabmjfjaaKcG
namespace Go.Proofs.Ytiealokabmjfjaa
set_option linter.unusedVariables false
open Go.ChangeShapes Go.WideShapes Go.ChangeAt Go.RowKit

theorem toList_strL (l : List UInt8) : (strL l).toList = l := by rw [ByteArray.toList_eq]; rfl
set_option maxRecDepth 100000 in
set_option maxHeartbeats 2000000 in
theorem after_w (s t : ByteArray) (w : World) (hs : s.size ≤ 1048576) (ht : t.size ≤ 1048576) :
    Calls Try.prog 6 #[.string s, .string t] w fun e w' => e = .returned (.bool true) ∧ Below w.heap.size w w' := by
  have QA := hide (fun W => awakeK_c W)
  have QF := hide (fun W => after_c s W (by omega))
  have Q1 := hide (fun W => sign_c t s W)
  have hbi := begins_iff s.data.toList t.data.toList
  have hgt := after_gt s.data.toList
  have hpre := @List.prefix_iff_eq_take UInt8 s.data.toList t.data.toList
  rw [str_len] at hpre
  unfold GivesA at QF
  generalize afterK s.data.toList = x at *
  have hcase : ((¬ (s.size : Int) ≤ t.size) ∧ ¬ s.data.toList <+: t.data.toList) ∨ ((s.size : Int) ≤ t.size ∧ ((strL (t.data.toList.take s.size)).toList == s.toList) = true ∧ s.data.toList <+: t.data.toList) ∨ ((s.size : Int) ≤ t.size ∧ ((strL (t.data.toList.take s.size)).toList == s.toList) = false ∧ ¬ s.data.toList <+: t.data.toList) := by
    by_cases hp : s.data.toList <+: t.data.toList
    · right; left
      have := hp.length_le
      rw [str_len, str_len] at this
      refine ⟨by omega, ?_, hp⟩
      rw [toList_strL, ByteArray.toList_eq, ← hpre.1 hp, beq_iff_eq]
    · by_cases hl : (s.size : Int) ≤ t.size
      · right; right
        refine ⟨hl, ?_, hp⟩
        rw [toList_strL, ByteArray.toList_eq, beq_eq_false_iff_ne]
        exact fun e => hp (hpre.2 e.symm)
      · exact .inl ⟨hl, hp⟩
  have hsl : s.size ≤ t.size → ∀ W, (Instr.slice 9 (.string t) none (some (.int .i64 (s.size : Int))) none).run Try.prog W = .ok (.string (strL (t.data.toList.take s.size))) W := fun hle W => by
    rw [← take_extract t s.size, run_slice_string_h (P := Try.prog) W 9 _ Try.underlying9 .i64 (s.size : Int) (by omega) (by omega)]
    rfl
  generalize strL (t.data.toList.take s.size) = t0 at *
  have hy : cmpT t s = cb t.data.toList s.data.toList := rfl
  rw [hy] at Q1
  generalize cb t.data.toList s.data.toList = y at *
  have HSL := hide hsl
  clear hy hsl hpre
  cases x with
  | none =>
    simp only [Option.getD_none, Option.isSome_none] at QF
    unfold strL at QF
    have hb2 : s.data.toList <+: t.data.toList ↔ 0 ≤ y := ⟨fun h => (hbi.1 h).1, fun h => hbi.2 ⟨h, fun a ha => by cases ha⟩⟩
    clear hbi hgt
    rcases hcase with ⟨h1, hp⟩ | ⟨h1, h2, hp⟩ | ⟨h1, h2, hp⟩
    · have hy : ¬ 0 ≤ y := fun h => hp (hb2.2 h)
      clear hb2 hp HSL
      go_enter Try.func6, Try.ntmps6
      go_wp2_with fail
      refine (QF.out _).mono ?_
      rintro e w1 ⟨rfl, hb⟩
      have HB1 := hide hb
      clear hb
      go_wp2_with fail
      refine (Q1.out _).mono ?_
      rintro e w2 ⟨rfl, hb⟩
      have HB2 := hide (Bel.then HB1.out hb)
      clear hb HB1
      go_wp2_with fail
      refine (QA.out _).mono ?_
      rintro e w3 ⟨rfl, hb⟩
      have HB3 := hide (Bel.then HB2.out hb)
      clear hb HB2
      go_wp2_with fail
      go_ret
      exact ⟨rfl, HB3.out⟩
    all_goals
      have hy := hb2
      first
        | (have hy := hb2.1 hp; clear hb2)
        | (have hy : ¬ 0 ≤ y := fun h => hp (hb2.2 h); clear hb2)
      have hsl := HSL.out (by omega)
      clear hp HSL
      go_enter Try.func6, Try.ntmps6
      go_wp2_with fail
      refine (QF.out _).mono ?_
      rintro e w1 ⟨rfl, hb⟩
      have HB1 := hide hb
      clear hb
      go_wp2_with fail
      refine (Q1.out _).mono ?_
      rintro e w2 ⟨rfl, hb⟩
      have HB2 := hide (Bel.then HB1.out hb)
      clear hb HB1
      go_wp2_with fail
      refine (QA.out _).mono ?_
      rintro e w3 ⟨rfl, hb⟩
      have HB3 := hide (Bel.then HB2.out hb)
      clear hb HB2
      go_wp2_with fail
      go_ret
      exact ⟨rfl, HB3.out⟩
  | some m =>
    simp only [Option.getD_some, Option.isSome_some] at QF
    have Q2 := hide (fun W => sign_c t (strL m) W)
    have Q3 := hide (fun W => sign_c (strL m) s W)
    have hz : cmpT t (strL m) = cb t.data.toList m := rfl
    have hg : cmpT (strL m) s = 1 := hgt m rfl
    rw [hz] at Q2
    rw [hg] at Q3
    have hb2 : s.data.toList <+: t.data.toList ↔ (0 ≤ y ∧ cb t.data.toList m < 0) := ⟨fun h => ⟨(hbi.1 h).1, (hbi.1 h).2 m rfl⟩, fun h => hbi.2 ⟨h.1, fun a ha => by injection ha with ha; rw [← ha]; exact h.2⟩⟩
    generalize cb t.data.toList m = z at *
    generalize strL m = tm at *
    clear hbi hgt hz hg
    have hyz : (s.data.toList <+: t.data.toList ∧ 0 ≤ y ∧ z < 0) ∨ (¬ s.data.toList <+: t.data.toList ∧ ¬ 0 ≤ y) ∨ (¬ s.data.toList <+: t.data.toList ∧ 0 ≤ y ∧ ¬ z < 0) := by
      by_cases hp : s.data.toList <+: t.data.toList
      · exact .inl ⟨hp, hb2.1 hp⟩
      · by_cases h0 : 0 ≤ y
        · exact .inr (.inr ⟨hp, h0, fun h => hp (hb2.2 ⟨h0, h⟩)⟩)
        · exact .inr (.inl ⟨hp, h0⟩)
    clear hb2
    have HYZ := hide hyz
    clear hyz
    rcases hcase with ⟨h1, hp⟩ | ⟨h1, h2, hp⟩ | ⟨h1, h2, hp⟩
    · clear HSL
      rcases HYZ.out with ⟨hq, _⟩ | ⟨_, hy⟩ | ⟨_, hy, hz⟩
      · exact absurd hq hp
      · clear hp HYZ
        go_enter Try.func6, Try.ntmps6
        go_wp2_with fail
        refine (QF.out _).mono ?_
        rintro e w1 ⟨rfl, hb⟩
        have HB1 := hide hb
        clear hb
        go_wp2_with fail
        refine (Q1.out _).mono ?_
        rintro e w2 ⟨rfl, hb⟩
        have HB2 := hide (Bel.then HB1.out hb)
        clear hb HB1
        go_wp2_with fail
        refine (QA.out _).mono ?_
        rintro e w3 ⟨rfl, hb⟩
        have HB3 := hide (Bel.then HB2.out hb)
        clear hb HB2
        go_wp2_with fail
        refine (Q3.out _).mono ?_
        rintro e w4 ⟨rfl, hb⟩
        have HB4 := hide (Bel.then HB3.out hb)
        clear hb HB3
        go_wp2_with fail
        go_ret
        exact ⟨ret_bool (by first | rfl | (simp; omega)), HB4.out⟩
      · clear hp HYZ
        go_enter Try.func6, Try.ntmps6
        go_wp2_with fail
        refine (QF.out _).mono ?_
        rintro e w1 ⟨rfl, hb⟩
        have HB1 := hide hb
        clear hb
        go_wp2_with fail
        refine (Q1.out _).mono ?_
        rintro e w2 ⟨rfl, hb⟩
        have HB2 := hide (Bel.then HB1.out hb)
        clear hb HB1
        go_wp2_with fail
        refine (Q2.out _).mono ?_
        rintro e w2 ⟨rfl, hb⟩
        have HB2' := hide (Bel.then HB2.out hb)
        clear hb HB2
        go_wp2_with fail
        refine (QA.out _).mono ?_
        rintro e w3 ⟨rfl, hb⟩
        have HB3 := hide (Bel.then HB2'.out hb)
        clear hb HB2'
        go_wp2_with fail
        refine (Q3.out _).mono ?_
        rintro e w4 ⟨rfl, hb⟩
        have HB4 := hide (Bel.then HB3.out hb)
        clear hb HB3
        go_wp2_with fail
        go_ret
        exact ⟨ret_bool (by first | rfl | (simp; omega)), HB4.out⟩
    all_goals
      have hsl := HSL.out (by omega)
      clear HSL
      rcases HYZ.out with ⟨hq, hy, hz⟩ | ⟨hq, hy⟩ | ⟨hq, hy, hz⟩
      all_goals first
        | exact absurd hq hp
        | exact absurd hp hq
        | skip
      all_goals
        clear hp hq HYZ
        go_enter Try.func6, Try.ntmps6
        go_wp2_with fail
        refine (QF.out _).mono ?_
        rintro e w1 ⟨rfl, hb⟩
        have HB1 := hide hb
        clear hb
        go_wp2_with fail
        refine (Q1.out _).mono ?_
        rintro e w2 ⟨rfl, hb⟩
        have HB2 := hide (Bel.then HB1.out hb)
        clear hb HB1
        go_wp2_with fail
        try
          (refine (Q2.out _).mono ?_
           rintro e w2 ⟨rfl, hb⟩
           have HB2 := hide (Bel.then HB2.out hb)
           clear hb
           go_wp2_with fail)
        refine (QA.out _).mono ?_
        rintro e w3 ⟨rfl, hb⟩
        have HB3 := hide (Bel.then HB2.out hb)
        clear hb HB2
        go_wp2_with fail
        refine (Q3.out _).mono ?_
        rintro e w4 ⟨rfl, hb⟩
        have HB4 := hide (Bel.then HB3.out hb)
        clear hb HB3
        go_wp2_with fail
        go_ret
        exact ⟨ret_bool (by first | rfl | (simp; omega)), HB4.out⟩
set_option maxRecDepth 100000 in
set_option maxHeartbeats 2000000 in
theorem rises_w (A B : Option Addr) (n c m d : Nat) (r s : List ValV) (w : World) (h : RowAt w w.heap.size A n c r) (h2 : RowAt w w.heap.size B m d s) (hn : n ≤ 1048576) (hm : m ≤ 1048576) (hr : ∀ a ∈ r, OkV a) (hs : ∀ a ∈ s, OkV a) :
    Calls Try.prog 5 #[.slice A n c, .slice B m d] w fun e w' => e = .returned (.bool true) ∧ Below w.heap.size w w' := by
  have QA := hide (fun W => awakeK_c W)
  have QR1 := hide (rights_c A n c r w h hn hr)
  have QR2 := hide (fun (W : World) (hW : Below w.heap.size w W) => rights_c B m d s W (h2.kept hW) hm hs)
  have QP1 := hide (fun (W : World) (hW : Below w.heap.size w W) => putK_c A n c r W (h.kept hW) hn hr)
  have QP2 := hide (fun (W : World) (hW : Below w.heap.size w W) => putK_c B m d s W (h2.kept hW) hm hs)
  have QO := hide (fun (W : World) (hW : Below w.heap.size w W) => orders_c A B n c m d r s W (h.kept hW) (h2.kept hW))
  have QS := hide (fun W => sign_c (strL (putK r)) (strL (putK s)) W)
  unfold GivesB at QP1 QP2
  clear h h2 hr hs
  cases h1 : r.all rightP
  · rw [h1] at QR1
    go_enter Try.func5, Try.ntmps5
    go_wp2_with fail
    refine QR1.out.mono ?_
    rintro e w1 ⟨rfl, hb⟩
    have HB1 := hide hb
    clear hb
    go_wp2_with fail
    refine (QA.out _).mono ?_
    rintro e w2 ⟨rfl, hb⟩
    have HB2 := hide (Bel.then HB1.out hb)
    clear hb HB1
    go_wp2_with fail
    go_ret
    exact ⟨rfl, HB2.out⟩
  · cases h2 : s.all rightP
    · rw [h1] at QR1
      rw [h2] at QR2
      go_enter Try.func5, Try.ntmps5
      go_wp2_with fail
      refine QR1.out.mono ?_
      rintro e w1 ⟨rfl, hb⟩
      have HB1 := hide hb
      clear hb
      go_wp2_with fail
      refine (QR2.out _ HB1.out).mono ?_
      rintro e w1 ⟨rfl, hb⟩
      have HB1' := hide (Bel.then HB1.out hb)
      clear hb HB1
      go_wp2_with fail
      refine (QA.out _).mono ?_
      rintro e w2 ⟨rfl, hb⟩
      have HB2 := hide (Bel.then HB1'.out hb)
      clear hb HB1'
      go_wp2_with fail
      go_ret
      exact ⟨rfl, HB2.out⟩
    · have hrs : cmpT (strL (putK r)) (strL (putK s)) = cmpR r s := by
        unfold putK
        rw [if_pos h1, if_pos h2]
        exact rises r s h1 h2
      rw [hrs] at QS
      rw [h1] at QR1
      rw [h2] at QR2
      generalize cmpR r s = y at *
      generalize strL (putK r) = t1 at *
      generalize strL (putK s) = t2 at *
      clear hrs h1 h2
      go_enter Try.func5, Try.ntmps5
      go_wp2_with fail
      refine QR1.out.mono ?_
      rintro e w1 ⟨rfl, hb⟩
      have HB1 := hide hb
      clear hb
      go_wp2_with fail
      refine (QR2.out _ HB1.out).mono ?_
      rintro e w2 ⟨rfl, hb⟩
      have HB2 := hide (Bel.then HB1.out hb)
      clear hb HB1
      go_wp2_with fail
      refine (QA.out _).mono ?_
      rintro e w3 ⟨rfl, hb⟩
      have HB3 := hide (Bel.then HB2.out hb)
      clear hb HB2
      go_wp2_with fail
      refine (QP1.out _ HB3.out).mono ?_
      rintro e w4 ⟨rfl, hb⟩
      have HB4 := hide (Bel.then HB3.out hb)
      clear hb HB3
      go_wp2_with fail
      refine (QP2.out _ HB4.out).mono ?_
      rintro e w5 ⟨rfl, hb⟩
      have HB5 := hide (Bel.then HB4.out hb)
      clear hb HB4
      go_wp2_with fail
      refine (QS.out _).mono ?_
      rintro e w6 ⟨rfl, hb⟩
      have HB6 := hide (Bel.then HB5.out hb)
      clear hb HB5
      go_wp2_with fail
      refine (QO.out _ HB6.out).mono ?_
      rintro e w7 ⟨rfl, hb⟩
      have HB7 := hide (Bel.then HB6.out hb)
      clear hb HB6
      go_wp2_with fail
      go_ret
      exact ⟨ret_bool (by simp), HB7.out⟩
end Go.Proofs.Ytiealokabmjfjaa
