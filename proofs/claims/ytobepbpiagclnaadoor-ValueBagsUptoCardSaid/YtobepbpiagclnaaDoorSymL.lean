/- The walk of ValueBags. -/
import Derived.Test.YtobepbpiagclnaaDoorSymK
import Derived.Test.YtobepbpiagclnaaDoorValGc
namespace Go.Proofs.YtobepbpiagclnaaDoor
set_option linter.unusedVariables false
open Go.ChangeShapes Go.WideShapes Go.ChangeAt Go.RowKit

set_option maxRecDepth 100000 in
set_option maxHeartbeats 4000000 in
theorem bags_w (A A2 : Option Addr) (n c n2 c2 : Nat) (ps qs : List HRow) (w : World) (hW : ValW w) (h : HsAt w A n c ps) (h2 : HsAt w A2 n2 c2 qs) (hn : n ≤ 1048576) (hn2 : n2 ≤ 1048576) (hg : ∀ p ∈ ps, StrsOk p.2 ∧ p.2.length ≤ 1048576) (hg2 : ∀ p ∈ qs, StrsOk p.2 ∧ p.2.length ≤ 1048576) :
    Calls Tryd.prog 4 #[.slice A n c, .slice A2 n2 c2] w fun e w' => e = .returned (.bool true) ∧ Below w.heap.size w w' := by
  have hr : ∀ r ∈ sndL ps, StrsOk r ∧ r.length ≤ 1048576 := fun r hr => by
    obtain ⟨p, hp, rfl⟩ := List.mem_map.1 hr
    exact hg p hp
  have hr2 : ∀ r ∈ sndL qs, StrsOk r ∧ r.length ≤ 1048576 := fun r hr => by
    obtain ⟨p, hp, rfl⟩ := List.mem_map.1 hr
    exact hg2 p hp
  have HG := hide hr
  have HG2 := hide hr2
  have QA := hide (awake_c w hW)
  have Q1 := hide (fun (W : World) (hb : Below w.heap.size w W) => bagG_c A A2 n c n2 c2 (sndL ps) (sndL qs) W (h.kept hb).nest (h2.kept hb).nest hn hn2 (fun r h => (hr r h).2) (fun r h => (hr2 r h).2))
  have Q2 := hide (fun (W : World) (hb : Below w.heap.size w W) => rbag_c A A2 n c n2 c2 ps qs W (h.kept hb) (h2.kept hb) (fun p hp => (hg p hp).1) (fun p hp => (hg2 p hp).1))
  have Q3 := hide (fun (W : World) (hb : Below w.heap.size w W) => bagG_c A2 A n2 c2 n c (sndL qs) (sndL ps) W (h2.kept hb).nest (h.kept hb).nest hn2 hn (fun r h => (hr2 r h).2) (fun r h => (hr r h).2))
  have Q4 := hide (fun (W : World) (hb : Below w.heap.size w W) => sortedG_c A n c (sndL ps) W (h.kept hb).nest hn (fun r h => (hr r h).2))
  have Q5 := hide (fun (W : World) (hb : Below w.heap.size w W) => sortedG_c A2 n2 c2 (sndL qs) W (h2.kept hb).nest hn2 (fun r h => (hr2 r h).2))
  clear h h2 hg hg2 hr hr2 hW
  by_cases hp : (sndL ps).Perm (sndL qs)
  · have HP := hide hp
    clear hp
    go_enter Tryd.func4, Tryd.ntmps4
    go_wp2_with fail
    refine QA.out.mono ?_
    rintro e w1 ⟨rfl, hb⟩
    have HB := hide hb
    clear hb QA
    go_wp2_with fail
    refine (Q1.out _ HB.out).mono ?_
    rintro e w2 ⟨q, rfl, hq, hb⟩
    obtain rfl : q = true := hq.2 HP.out
    replace HB := hide (Bel.then HB.out hb)
    clear hb hq
    go_wp2_with fail
    refine (Q2.out _ HB.out).mono ?_
    rintro e w3 ⟨q, rfl, hq, hb⟩
    obtain rfl : q = true := hq.2 HP.out
    replace HB := hide (Bel.then HB.out hb)
    clear hb hq
    go_wp2_with fail
    refine (Q1.out _ HB.out).mono ?_
    rintro e w4 ⟨q, rfl, hq, hb⟩
    obtain rfl : q = true := hq.2 HP.out
    replace HB := hide (Bel.then HB.out hb)
    clear hb hq
    go_wp2_with fail
    refine (Q3.out _ HB.out).mono ?_
    rintro e w5 ⟨q, rfl, hq, hb⟩
    obtain rfl : q = true := hq.2 HP.out.symm
    replace HB := hide (Bel.then HB.out hb)
    clear hb hq
    go_wp2_with fail
    refine (Q1.out _ HB.out).mono ?_
    rintro e w6 ⟨q, rfl, hq, hb⟩
    obtain rfl : q = true := hq.2 HP.out
    replace HB := hide (Bel.then HB.out hb)
    clear hb hq
    go_wp2_with fail
    refine (Q4.out _ HB.out).mono ?_
    rintro e w7 ⟨X, cx, xs, rfl, hx, hs, hb⟩
    replace HB := hide (Bel.then HB.out hb)
    have HX := hide hx
    have HE := hide hs
    clear hb hx hs
    go_wp2_with fail
    refine (Q5.out _ HB.out).mono ?_
    rintro e w8 ⟨Y, cy, ys, rfl, hy, hs, hb⟩
    replace HB := hide (Bel.then HB.out hb)
    replace HX := hide (HX.out.kept hb)
    have HY := hide hy
    have HF := hide hs
    clear hb hy hs
    have QT := hide (List_c X Y n cx n2 cy xs ys w8 HX.out HY.out (fun p hp => (HG.out p.2 ((sortedF_perm _).mem_iff.1 (by rw [← HE.out]; exact List.mem_map.2 ⟨p, hp, rfl⟩))).1) (fun p hp => (HG2.out p.2 ((sortedF_perm _).mem_iff.1 (by rw [← HF.out]; exact List.mem_map.2 ⟨p, hp, rfl⟩))).1))
    go_wp2_with fail
    refine QT.out.mono ?_
    rintro e w9 ⟨q, rfl, hq, hb⟩
    rw [HE.out, HF.out, sorted_same] at hq
    obtain rfl : q = true := hq.2 HP.out
    replace HB := hide (Bel.then HB.out hb)
    clear hb hq
    go_wp2_with fail
    go_ret
    exact ⟨rfl, HB.out⟩
  · have HP := hide hp
    clear hp
    go_enter Tryd.func4, Tryd.ntmps4
    go_wp2_with fail
    refine QA.out.mono ?_
    rintro e w1 ⟨rfl, hb⟩
    have HB := hide hb
    clear hb QA
    go_wp2_with fail
    refine (Q1.out _ HB.out).mono ?_
    rintro e w2 ⟨q, rfl, hq, hb⟩
    obtain rfl : q = false := by
      cases q
      · rfl
      · exact absurd (hq.1 rfl) HP.out
    replace HB := hide (Bel.then HB.out hb)
    clear hb hq
    go_wp2_with fail
    refine (Q2.out _ HB.out).mono ?_
    rintro e w3 ⟨q, rfl, hq, hb⟩
    obtain rfl : q = false := by
      cases q
      · rfl
      · exact absurd (hq.1 rfl) HP.out
    replace HB := hide (Bel.then HB.out hb)
    clear hb hq
    go_wp2_with fail
    refine (Q1.out _ HB.out).mono ?_
    rintro e w4 ⟨q, rfl, hq, hb⟩
    obtain rfl : q = false := by
      cases q
      · rfl
      · exact absurd (hq.1 rfl) HP.out
    replace HB := hide (Bel.then HB.out hb)
    clear hb hq
    go_wp2_with fail
    refine (Q3.out _ HB.out).mono ?_
    rintro e w5 ⟨q, rfl, hq, hb⟩
    obtain rfl : q = false := by
      cases q
      · rfl
      · exact absurd (hq.1 rfl).symm HP.out
    replace HB := hide (Bel.then HB.out hb)
    clear hb hq
    go_wp2_with fail
    refine (Q1.out _ HB.out).mono ?_
    rintro e w6 ⟨q, rfl, hq, hb⟩
    obtain rfl : q = false := by
      cases q
      · rfl
      · exact absurd (hq.1 rfl) HP.out
    replace HB := hide (Bel.then HB.out hb)
    clear hb hq
    go_wp2_with fail
    refine (Q4.out _ HB.out).mono ?_
    rintro e w7 ⟨X, cx, xs, rfl, hx, hs, hb⟩
    replace HB := hide (Bel.then HB.out hb)
    have HX := hide hx
    have HE := hide hs
    clear hb hx hs
    go_wp2_with fail
    refine (Q5.out _ HB.out).mono ?_
    rintro e w8 ⟨Y, cy, ys, rfl, hy, hs, hb⟩
    replace HB := hide (Bel.then HB.out hb)
    replace HX := hide (HX.out.kept hb)
    have HY := hide hy
    have HF := hide hs
    clear hb hy hs
    have QT := hide (List_c X Y n cx n2 cy xs ys w8 HX.out HY.out (fun p hp => (HG.out p.2 ((sortedF_perm _).mem_iff.1 (by rw [← HE.out]; exact List.mem_map.2 ⟨p, hp, rfl⟩))).1) (fun p hp => (HG2.out p.2 ((sortedF_perm _).mem_iff.1 (by rw [← HF.out]; exact List.mem_map.2 ⟨p, hp, rfl⟩))).1))
    go_wp2_with fail
    refine QT.out.mono ?_
    rintro e w9 ⟨q, rfl, hq, hb⟩
    rw [HE.out, HF.out, sorted_same] at hq
    obtain rfl : q = false := by
      cases q
      · rfl
      · exact absurd (hq.1 rfl) HP.out
    replace HB := hide (Bel.then HB.out hb)
    clear hb hq
    go_wp2_with fail
    go_ret
    exact ⟨rfl, HB.out⟩
end Go.Proofs.YtobepbpiagclnaaDoor
