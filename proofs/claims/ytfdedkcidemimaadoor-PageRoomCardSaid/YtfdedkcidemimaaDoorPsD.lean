/- Pages: the walk of PageBack. -/
import Derived.Test.YtfdedkcidemimaaDoorPsB
import Derived.Test.YtfdedkcidemimaaDoorPmJ
namespace Go.Proofs.YtfdedkcidemimaaDoor
set_option linter.unusedVariables false
set_option linter.unusedSimpArgs false
open Go.ChangeShapes Go.WideShapes Go.ChangeAt Go.RowKit


set_option maxRecDepth 100000 in
theorem plain_c (p : ByteArray) (hm : p.size ≤ 4000) (w : World) : Calls Tryd.prog 46 #[.string p] w fun e w' => e = .returned (.string (setLsnS p (lsnS p))) ∧ Below w.heap.size w w' := by
  have HB := hide (Below.refl w.heap.size w)
  have Q1 := hide (fun W => lsn_c p hm W)
  have Q2 := hide (fun W => setLsn_c p (lsnS p) hm W)
  generalize setLsnS p (lsnS p) = v at *
  generalize lsnS p = l at *
  go_enter Tryd.func46, Tryd.ntmps46
  go_wp2_with fail
  refine (Q1.out _).mono ?_
  rintro e wz1 ⟨rfl, hb⟩
  replace HB := hide (Bel.then HB.out hb)
  clear hb
  go_wp2_with fail
  refine (Q2.out _).mono ?_
  rintro e wz2 ⟨rfl, hb⟩
  replace HB := hide (Bel.then HB.out hb)
  clear hb
  go_wp2_with fail
  go_ret
  exact ⟨rfl, HB.out⟩
set_option maxRecDepth 100000 in
set_option maxHeartbeats 4000000 in
theorem back_big (p : ByteArray) (s : Int) (r : ByteArray) (w : World) (hT : TabW w) (hp : 600 < p.size) : Calls Tryd.prog 6 #[.string p, .int .i64 s, .string r] w fun e w' => e = .returned (.bool true) ∧ Below w.heap.size w w' := by
  have HT := hide hT
  clear hT
  have HB := hide (Below.refl w.heap.size w)
  have QA := hide (fun W hW => awake_p W hW)
  have h1 : (600 : Int) < p.size := by omega
  go_enter Tryd.func6, Tryd.ntmps6
  go_wp2_with fail
  refine (QA.out _ (HT.out.keep HB.out)).mono ?_
  rintro e wz1 ⟨rfl, hb⟩
  replace HB := hide (Bel.then HB.out hb)
  clear hb
  go_wp2_with fail
  go_ret
  exact ⟨rfl, HB.out⟩
set_option maxRecDepth 100000 in
set_option maxHeartbeats 4000000 in
theorem back_big2 (p : ByteArray) (s : Int) (r : ByteArray) (w : World) (hT : TabW w) (hp : p.size ≤ 600) (hr : 600 < r.size) : Calls Tryd.prog 6 #[.string p, .int .i64 s, .string r] w fun e w' => e = .returned (.bool true) ∧ Below w.heap.size w w' := by
  have HT := hide hT
  clear hT
  have HB := hide (Below.refl w.heap.size w)
  have QA := hide (fun W hW => awake_p W hW)
  have h1 : ¬ (600 : Int) < p.size := by omega
  have h2 : (600 : Int) < r.size := by omega
  go_enter Tryd.func6, Tryd.ntmps6
  go_wp2_with fail
  refine (QA.out _ (HT.out.keep HB.out)).mono ?_
  rintro e wz1 ⟨rfl, hb⟩
  replace HB := hide (Bel.then HB.out hb)
  clear hb
  go_wp2_with fail
  go_ret
  exact ⟨rfl, HB.out⟩
set_option maxRecDepth 100000 in
set_option maxHeartbeats 4000000 in
theorem back_no (p : ByteArray) (s : Int) (r : ByteArray) (w : World) (hT : TabW w) (hp : p.size ≤ 600) (hr : r.size ≤ 600) (hn : rightB p = false) : Calls Tryd.prog 6 #[.string p, .int .i64 s, .string r] w fun e w' => e = .returned (.bool true) ∧ Below w.heap.size w w' := by
  have HT := hide hT
  clear hT
  have HB := hide (Below.refl w.heap.size w)
  have QA := hide (fun W hW => awake_p W hW)
  have h1 : ¬ (600 : Int) < p.size := by omega
  have h2 : ¬ (600 : Int) < r.size := by omega
  have Q1 := hide (fun W => right_c p (by omega) W)
  rw [hn] at Q1
  go_enter Tryd.func6, Tryd.ntmps6
  go_wp2_with fail
  refine (Q1.out _).mono ?_
  rintro e wz1 ⟨rfl, hb⟩
  replace HB := hide (Bel.then HB.out hb)
  clear hb
  go_wp2_with fail
  refine (QA.out _ (HT.out.keep HB.out)).mono ?_
  rintro e wz2 ⟨rfl, hb⟩
  replace HB := hide (Bel.then HB.out hb)
  clear hb
  go_wp2_with fail
  go_ret
  exact ⟨rfl, HB.out⟩
set_option maxRecDepth 100000 in
set_option maxHeartbeats 4000000 in
theorem back_w (p : ByteArray) (s : Int) (r : ByteArray) (w : World) (hT : TabW w) (hp : p.size ≤ 600) (hr : r.size ≤ 600) (hn : rightB p = true) : Calls Tryd.prog 6 #[.string p, .int .i64 s, .string r] w fun e w' => e = .returned (.bool true) ∧ Below w.heap.size w w' := by
  have HT := hide hT
  clear hT
  have HB := hide (Below.refl w.heap.size w)
  have QA := hide (fun W hW => awake_p W hW)
  have h1 : ¬ (600 : Int) < p.size := by omega
  have h2 : ¬ (600 : Int) < r.size := by omega
  have hm : p.size ≤ 4000 := by omega
  have hmr : r.size ≤ 4000 := by omega
  have R := (rightP_iff p).mp hn
  have q1 := fun W => right_c p hm W
  rw [hn] at q1
  have q2 := fun W => getpage_c p s hm W
  have q3 := fun W => putpage_c p s r hm hmr W
  have q4 := fun W => cutpage_c p s hm W
  have q5 := fun W => setpage_c p s r hm hmr W
  have q6 := fun W => addpage_c p s r hm hmr W
  have q7 := fun W => delpage_c p s hm W
  have q8 := fun W => plain_c p hm W
  have q9 := fun W => lsn_c p hm W
  have q10 := fun W => link_c p hm W
  have q11 := fun W => kind_c p hm W
  have hgs : (getS p s).1.size ≤ 4000 := by
    cases hg : (getS p s).2 with
    | false =>
      by_cases hs : 0 ≤ s
      · obtain ⟨k, rfl⟩ : ∃ k : Nat, s = k := ⟨s.toNat, by omega⟩
        have hn0 := getS_nil R hg
        rw [getS_q, qC, if_pos hn, rgetV_no hn0]
        exact Nat.zero_le _
      · have : getS p s = (⟨#[]⟩, false) := getS_no (fun h => hs h.2.1)
        rw [this]
        exact Nat.zero_le _
    | true =>
      obtain ⟨_, h0, _, _, _⟩ := getS_yes hg
      obtain ⟨k, rfl⟩ : ∃ k : Nat, s = k := ⟨s.toNat, by omega⟩
      obtain ⟨_, _, _, _, h4⟩ := rec_at (p := p) (k := k) (r := (getS p (k : Int)).1) (by rw [← hg])
      omega
  have b1 := hide (fun q (h : putS p s r = (q, 0)) => back_put h)
  have b2 := hide (fun q (h : cutS p s = (q, 0)) => back_cut h)
  have b3 := hide (fun q (h : setS p s r = (q, 0)) => back_set h)
  have b4 := hide (fun q (h : addS p s r = (q, 0)) => back_add h)
  have b5 := hide (fun q (h : delS p s = (q, 0)) => back_del h)
  generalize getS p s = g at *
  obtain ⟨g1, g2⟩ := g
  dsimp only at hgs
  generalize setLsnS p (lsnS p) = PL at *
  generalize putS p s r = v0 at *
  obtain ⟨a0, e0⟩ := v0
  generalize cutS p s = v1 at *
  obtain ⟨a1, e1⟩ := v1
  generalize setS p s r = v2 at *
  obtain ⟨a2, e2⟩ := v2
  generalize addS p s r = v3 at *
  obtain ⟨a3, e3⟩ := v3
  generalize delS p s = v4 at *
  obtain ⟨a4, e4⟩ := v4
  have Q1 := hide q1
  have Q2 := hide q2
  have Q3 := hide q3
  have Q4 := hide q4
  have Q5 := hide q5
  have Q6 := hide q6
  have Q7 := hide q7
  have Q8 := hide q8
  have Q9 := hide q9
  have Q10 := hide q10
  have Q11 := hide q11
  clear q1 q2 q3 q4 q5 q6 q7 q8 q9 q10 q11 hn R
  have t1 : ∀ b : Bool, (b == b) = true := fun b => by cases b <;> rfl
  have t2 : ∀ x : Int, decide (x = x) = true := fun x => by simp
  have t3 : ∀ x : Int, (x == x) = true := fun x => by simp
  have t4 : ∀ s : ByteArray, (s.toList == s.toList) = true := fun s => by simp
  have t5 : ∀ s : ByteArray, (s.toList != s.toList) = false := fun s => by simp
  go_enter Tryd.func6, Tryd.ntmps6
  go_wp2_with fail
  refine (Q1.out _).mono ?_
  rintro e wz3 ⟨rfl, hb⟩
  replace HB := hide (Bel.then HB.out hb)
  clear hb
  go_wp2_with fail
  refine (Q2.out _).mono ?_
  rintro e wz4 ⟨rfl, hb⟩
  replace HB := hide (Bel.then HB.out hb)
  clear hb
  go_wp2_with fail
  refine (Q3.out _).mono ?_
  rintro e wz21 ⟨rfl, hb⟩
  replace HB := hide (Bel.then HB.out hb)
  clear hb
  go_upto_if 57 with (fail)
  go_cut [11, 12] from 56 to 74 (fun _ _ wx => Hid (Below w.heap.size w wx))
  case first =>
    by_cases he : e0 = 0
    · subst he
      obtain ⟨hg, R0, hc⟩ := b1.out _ rfl
      try dsimp only at hg
      subst hg
      have hz := R0.size
      have qq := hide (fun W => cutpage_c a0 s (by omega) W)
      rw [hc] at qq
      clear hc R0 hz
      go_wp2_with fail
      refine (qq.out _).mono ?_
      rintro e wz5 ⟨rfl, hb⟩
      replace HB := hide (Bel.then HB.out hb)
      clear hb
      go_wp2_with fail
      refine (Q8.out _).mono ?_
      rintro e wz6 ⟨rfl, hb⟩
      replace HB := hide (Bel.then HB.out hb)
      clear hb
      go_wp2_with fail
      go_meet
      case rel => exact HB
    · have he2 : (e0 == 0) = false := by simp [he]
      go_wp2_with fail
      go_meet
      case rel => exact HB
  case rest =>
    have HBx := hcut
    clear HB
    have HB := HBx
    clear HBx
    go_wp2_with fail
    refine (Q4.out _).mono ?_
    rintro e wz22 ⟨rfl, hb⟩
    replace HB := hide (Bel.then HB.out hb)
    clear hb
    go_upto_if 82 with (fail)
    go_cut [15, 16] from 81 to 101 (fun _ _ wx => Hid (Below w.heap.size w wx))
    case first =>
      by_cases he : e1 = 0
      · subst he
        obtain ⟨hg, R0, hc⟩ := b2.out _ rfl
        try dsimp only at hg hc
        subst hg
        have hz := R0.size
        have qq := hide (fun W => putpage_c a1 s g1 (by omega) hgs W)
        rw [hc] at qq
        clear hc R0 hz
        go_wp2_with fail
        refine (qq.out _).mono ?_
        rintro e wz7 ⟨rfl, hb⟩
        replace HB := hide (Bel.then HB.out hb)
        clear hb
        go_wp2_with fail
        refine (Q8.out _).mono ?_
        rintro e wz8 ⟨rfl, hb⟩
        replace HB := hide (Bel.then HB.out hb)
        clear hb
        go_wp2_with fail
        go_meet
        case rel => exact HB
      · have he2 : (e1 == 0) = false := by simp [he]
        go_wp2_with fail
        go_meet
        case rel => exact HB
    case rest =>
      have HBx := hcut
      clear HB
      have HB := HBx
      clear HBx
      go_wp2_with fail
      refine (Q5.out _).mono ?_
      rintro e wz23 ⟨rfl, hb⟩
      replace HB := hide (Bel.then HB.out hb)
      clear hb
      go_upto_if 110 with (fail)
      go_cut [19, 20] from 109 to 150 (fun _ _ wx => Hid (Below w.heap.size w wx))
      case first =>
        by_cases he : e2 = 0
        · subst he
          obtain ⟨hg, R0, hc, hl, hk, hd⟩ := b3.out _ rfl
          try dsimp only at hg hc
          subst hg
          have hz := R0.size
          have qq := hide (fun W => setpage_c a2 s g1 (by omega) hgs W)
          rw [hc] at qq
          have q9b := hide (fun W => lsn_c a2 (by omega) W)
          have q10b := hide (fun W => link_c a2 (by omega) W)
          have q11b := hide (fun W => kind_c a2 (by omega) W)
          rw [hl] at q9b
          rw [hk] at q10b
          rw [hd] at q11b
          clear hc R0 hz hl hk hd
          generalize lsnS p = v1 at *
          generalize linkS p = v2 at *
          generalize kindS p = v3 at *
          go_wp2_with fail
          refine (qq.out _).mono ?_
          rintro e wz9 ⟨rfl, hb⟩
          replace HB := hide (Bel.then HB.out hb)
          clear hb
          go_wp2_with fail
          refine (Q8.out _).mono ?_
          rintro e wz10 ⟨rfl, hb⟩
          replace HB := hide (Bel.then HB.out hb)
          clear hb
          go_wp2_with fail
          refine (q9b.out _).mono ?_
          rintro e wz11 ⟨rfl, hb⟩
          replace HB := hide (Bel.then HB.out hb)
          clear hb
          go_wp2_with fail
          refine (Q9.out _).mono ?_
          rintro e wz12 ⟨rfl, hb⟩
          replace HB := hide (Bel.then HB.out hb)
          clear hb
          go_wp2_with fail
          refine (q10b.out _).mono ?_
          rintro e wz13 ⟨rfl, hb⟩
          replace HB := hide (Bel.then HB.out hb)
          clear hb
          go_wp2_with fail
          refine (Q10.out _).mono ?_
          rintro e wz14 ⟨rfl, hb⟩
          replace HB := hide (Bel.then HB.out hb)
          clear hb
          go_wp2_with fail
          refine (q11b.out _).mono ?_
          rintro e wz15 ⟨rfl, hb⟩
          replace HB := hide (Bel.then HB.out hb)
          clear hb
          go_wp2_with fail
          refine (Q11.out _).mono ?_
          rintro e wz16 ⟨rfl, hb⟩
          replace HB := hide (Bel.then HB.out hb)
          clear hb
          go_wp2_with fail
          go_meet
          case rel => exact HB
        · have he2 : (e2 == 0) = false := by simp [he]
          go_wp2_with fail
          go_meet
          case rel => exact HB
      case rest =>
        have HBx := hcut
        clear HB
        have HB := HBx
        clear HBx
        go_wp2_with fail
        refine (Q6.out _).mono ?_
        rintro e wz24 ⟨rfl, hb⟩
        replace HB := hide (Bel.then HB.out hb)
        clear hb
        go_upto_if 159 with (fail)
        go_cut [23, 24] from 158 to 173 (fun _ _ wx => Hid (Below w.heap.size w wx))
        case first =>
          by_cases he : e3 = 0
          · subst he
            obtain ⟨R0, hc⟩ := b4.out _ rfl
            have hz := R0.size
            have qq := hide (fun W => delpage_c a3 s (by omega) W)
            rw [hc] at qq
            clear hc R0 hz
            go_wp2_with fail
            refine (qq.out _).mono ?_
            rintro e wz17 ⟨rfl, hb⟩
            replace HB := hide (Bel.then HB.out hb)
            clear hb
            go_wp2_with fail
            refine (Q8.out _).mono ?_
            rintro e wz18 ⟨rfl, hb⟩
            replace HB := hide (Bel.then HB.out hb)
            clear hb
            go_wp2_with fail
            go_meet
            case rel => exact HB
          · have he2 : (e3 == 0) = false := by simp [he]
            go_wp2_with fail
            go_meet
            case rel => exact HB
        case rest =>
          have HBx := hcut
          clear HB
          have HB := HBx
          clear HBx
          go_wp2_with fail
          refine (Q7.out _).mono ?_
          rintro e wz25 ⟨rfl, hb⟩
          replace HB := hide (Bel.then HB.out hb)
          clear hb
          go_upto_if 181 with (fail)
          go_cut [27, 28] from 180 to 196 (fun _ _ wx => Hid (Below w.heap.size w wx))
          case first =>
            by_cases he : e4 = 0
            · subst he
              obtain ⟨R0, hc⟩ := b5.out _ rfl
              try dsimp only at hc
              have hz := R0.size
              have qq := hide (fun W => addpage_c a4 s g1 (by omega) hgs W)
              rw [hc] at qq
              clear hc R0 hz
              go_wp2_with fail
              refine (qq.out _).mono ?_
              rintro e wz19 ⟨rfl, hb⟩
              replace HB := hide (Bel.then HB.out hb)
              clear hb
              go_wp2_with fail
              refine (Q8.out _).mono ?_
              rintro e wz20 ⟨rfl, hb⟩
              replace HB := hide (Bel.then HB.out hb)
              clear hb
              go_wp2_with fail
              go_meet
              case rel => exact HB
            · have he2 : (e4 == 0) = false := by simp [he]
              go_wp2_with fail
              go_meet
              case rel => exact HB
          case rest =>
            have HBx := hcut
            clear HB
            have HB := HBx
            clear HBx
            go_wp2_with fail
            refine (QA.out _ (HT.out.keep HB.out)).mono ?_
            rintro e wz26 ⟨rfl, hb⟩
            replace HB := hide (Bel.then HB.out hb)
            clear hb
            go_wp2_with fail
            go_ret
            exact ⟨rfl, HB.out⟩
end Go.Proofs.YtfdedkcidemimaaDoor
