/- Pages: place, number, Right. -/
import Derived.Test.YtfdedkcidemimaaDoorPgM
namespace Go.Proofs.YtfdedkcidemimaaDoor
set_option linter.unusedVariables false
open Go.ChangeShapes Go.WideShapes Go.ChangeAt Go.RowKit

theorem short_b (p : ByteArray) (i : Nat) (h : i + 1 < p.size) (hm : p.size ≤ 4000) (w : World) : Calls Tryd.prog 47 #[.string p, .int .i64 i] w fun e w' => e = .returned (.int .i64 (shN p i)) ∧ Below w.heap.size w w' :=
  (short_c p i h hm w).mono fun e w' ⟨he, n, hw⟩ => ⟨he, hw ▸ (Bel.drewN (Below.refl _ _) n)⟩
set_option maxRecDepth 100000 in
theorem place_c (p : ByteArray) (i : Nat) (h : 22 + 4 * i < p.size) (hm : p.size ≤ 4000) (w : World) : Calls Tryd.prog 48 #[.string p, .int .i64 i] w fun e w' => e = .returned (.tuple #[.int .i64 (shN p (19 + 4 * i)), .int .i64 (shN p (21 + 4 * i))]) ∧ Below w.heap.size w w' := by
  obtain ⟨j, hj⟩ : ∃ j, 19 + 4 * i = j := ⟨_, rfl⟩
  obtain ⟨k, hk⟩ : ∃ k, 21 + 4 * i = k := ⟨_, rfl⟩
  have Q1 := hide (fun W => short_b p j (by omega) hm W)
  have Q2 := hide (fun W => short_b p k (by omega) hm W)
  rw [hj, hk]
  have w1 : IntKind.i64.wrap (4 * (i : Int)) = 4 * (i : Int) := IntWalk.i64_in _ (by omega)
  have w2 : IntKind.i64.wrap (19 + 4 * (i : Int)) = (j : Int) := by rw [IntWalk.i64_in _ (by omega)]; omega
  have w3 : IntKind.i64.wrap ((j : Int) + 2) = (k : Int) := by rw [IntWalk.i64_in _ (by omega)]; omega
  generalize shN p j = x at *
  generalize shN p k = y at *
  clear hj hk h hm
  go_enter Tryd.func48, Tryd.ntmps48
  go_wp2_with fail
  refine (Q1.out _).mono ?_
  rintro e w4 ⟨rfl, hb⟩
  go_wp2_with fail
  refine (Q2.out _).mono ?_
  rintro e w5 ⟨rfl, hb2⟩
  have HB := hide (Bel.then hb hb2)
  clear hb hb2
  go_wp2_with fail
  go_ret2
  exact ⟨rfl, HB.out⟩
theorem number_c (p : ByteArray) (a z : Int) (hm : p.size ≤ 4000) (w : World) : Calls Tryd.prog 51 #[.string p, .int .i64 a, .int .i64 z] w fun e w' => e = .returned (.int .i64 (getP p a z).1) ∧ w = w' := by
  have Q := hide (fun W => get_c p a z (by omega) W)
  generalize getP p a z = g at *
  go_enter Tryd.func51, Tryd.ntmps51
  go_wp2_with fail
  refine (Q.out _).mono ?_
  rintro e w4 ⟨rfl, rfl⟩
  go_wp2_with fail
  go_ret
  exact ⟨rfl, rfl⟩
/-- Zero bytes. -/
def zrs (k : Nat) : ByteArray := ⟨(List.replicate k 0).toArray⟩
theorem zrs_is : ({ data := (((([0, 0, 0, 0, 0, 0, 0, 0, 0, 0, 0, 0, 0, 0, 0, 0, 0, 0, 0, 0, 0, 0, 0, 0, 0, 0, 0, 0, 0, 0, 0, 0, 0, 0, 0, 0, 0, 0, 0, 0, 0, 0, 0, 0, 0, 0, 0, 0, 0, 0, 0, 0, 0, 0, 0, 0, 0, 0, 0, 0, 0, 0, 0, 0].append [0, 0, 0, 0, 0, 0, 0, 0, 0, 0, 0, 0, 0, 0, 0, 0, 0, 0, 0, 0, 0, 0, 0, 0, 0, 0, 0, 0, 0, 0, 0, 0, 0, 0, 0, 0, 0, 0, 0, 0, 0, 0, 0, 0, 0, 0, 0, 0, 0, 0, 0, 0, 0, 0, 0, 0, 0, 0, 0, 0, 0, 0, 0, 0]).append ([0, 0, 0, 0, 0, 0, 0, 0, 0, 0, 0, 0, 0, 0, 0, 0, 0, 0, 0, 0, 0, 0, 0, 0, 0, 0, 0, 0, 0, 0, 0, 0, 0, 0, 0, 0, 0, 0, 0, 0, 0, 0, 0, 0, 0, 0, 0, 0, 0, 0, 0, 0, 0, 0, 0, 0, 0, 0, 0, 0, 0, 0, 0, 0].append [0, 0, 0, 0, 0, 0, 0, 0, 0, 0, 0, 0, 0, 0, 0, 0, 0, 0, 0, 0, 0, 0, 0, 0, 0, 0, 0, 0, 0, 0, 0, 0, 0, 0, 0, 0, 0, 0, 0, 0, 0, 0, 0, 0, 0, 0, 0, 0, 0, 0, 0, 0, 0, 0, 0, 0, 0, 0, 0, 0, 0, 0, 0, 0])).append (([0, 0, 0, 0, 0, 0, 0, 0, 0, 0, 0, 0, 0, 0, 0, 0, 0, 0, 0, 0, 0, 0, 0, 0, 0, 0, 0, 0, 0, 0, 0, 0, 0, 0, 0, 0, 0, 0, 0, 0, 0, 0, 0, 0, 0, 0, 0, 0, 0, 0, 0, 0, 0, 0, 0, 0, 0, 0, 0, 0, 0, 0, 0, 0].append [0, 0, 0, 0, 0, 0, 0, 0, 0, 0, 0, 0, 0, 0, 0, 0, 0, 0, 0, 0, 0, 0, 0, 0, 0, 0, 0, 0, 0, 0, 0, 0, 0, 0, 0, 0, 0, 0, 0, 0, 0, 0, 0, 0, 0, 0, 0, 0, 0, 0, 0, 0, 0, 0, 0, 0, 0, 0, 0, 0, 0, 0, 0, 0]).append ([0, 0, 0, 0, 0, 0, 0, 0, 0, 0, 0, 0, 0, 0, 0, 0, 0, 0, 0, 0, 0, 0, 0, 0, 0, 0, 0, 0, 0, 0, 0, 0, 0, 0, 0, 0, 0, 0, 0, 0, 0, 0, 0, 0, 0, 0, 0, 0, 0, 0, 0, 0, 0, 0, 0, 0, 0, 0, 0, 0, 0, 0, 0, 0].append [0, 0, 0, 0, 0, 0, 0, 0, 0, 0, 0, 0, 0, 0, 0, 0, 0, 0, 0, 0, 0, 0, 0, 0, 0, 0, 0, 0, 0, 0, 0, 0, 0, 0, 0, 0, 0, 0, 0, 0, 0, 0, 0, 0, 0, 0, 0, 0, 0, 0, 0, 0, 0, 0, 0, 0, 0, 0, 0, 0, 0, 0, 0, 0]))).toArray) } : ByteArray) = zrs 512 := by decide +kernel
theorem zrs_cut (m k : Nat) (h : k ≤ m) : (zrs m).extract 0 k = zrs k := by
  unfold zrs
  apply ByteArray.ext
  rw [ByteArray.data_extract]
  apply Array.ext'
  simp
  omega
theorem zrs_size (k : Nat) : (zrs k).size = k := by
  show (List.replicate k (0 : UInt8)).toArray.size = k
  rw [List.size_toArray, List.length_replicate]
theorem cut_str (p : ByteArray) (a b : Nat) (h : a ≤ b) (hb : b ≤ p.size) (W : World) : (Instr.slice 9 (.string p) (some (.int .i64 a)) (some (.int .i64 b)) none).run Tryd.prog W = .ok (.string (p.extract a b)) W := by
  have h1 : (a : Int) ≤ b := by omega
  have h2 : (b : Int) ≤ p.size := by omega
  go_simp
theorem cut_str0 (p : ByteArray) (b : Nat) (hb : b ≤ p.size) (W : World) : (Instr.slice 9 (.string p) none (some (.int .i64 b)) none).run Tryd.prog W = .ok (.string (p.extract 0 b)) W := by
  have h2 : (b : Int) ≤ p.size := by omega
  go_simp
theorem zslice (k : Nat) (h : k ≤ 512) (W : World) : (Instr.slice 9 (.string { data := (((([0, 0, 0, 0, 0, 0, 0, 0, 0, 0, 0, 0, 0, 0, 0, 0, 0, 0, 0, 0, 0, 0, 0, 0, 0, 0, 0, 0, 0, 0, 0, 0, 0, 0, 0, 0, 0, 0, 0, 0, 0, 0, 0, 0, 0, 0, 0, 0, 0, 0, 0, 0, 0, 0, 0, 0, 0, 0, 0, 0, 0, 0, 0, 0].append [0, 0, 0, 0, 0, 0, 0, 0, 0, 0, 0, 0, 0, 0, 0, 0, 0, 0, 0, 0, 0, 0, 0, 0, 0, 0, 0, 0, 0, 0, 0, 0, 0, 0, 0, 0, 0, 0, 0, 0, 0, 0, 0, 0, 0, 0, 0, 0, 0, 0, 0, 0, 0, 0, 0, 0, 0, 0, 0, 0, 0, 0, 0, 0]).append ([0, 0, 0, 0, 0, 0, 0, 0, 0, 0, 0, 0, 0, 0, 0, 0, 0, 0, 0, 0, 0, 0, 0, 0, 0, 0, 0, 0, 0, 0, 0, 0, 0, 0, 0, 0, 0, 0, 0, 0, 0, 0, 0, 0, 0, 0, 0, 0, 0, 0, 0, 0, 0, 0, 0, 0, 0, 0, 0, 0, 0, 0, 0, 0].append [0, 0, 0, 0, 0, 0, 0, 0, 0, 0, 0, 0, 0, 0, 0, 0, 0, 0, 0, 0, 0, 0, 0, 0, 0, 0, 0, 0, 0, 0, 0, 0, 0, 0, 0, 0, 0, 0, 0, 0, 0, 0, 0, 0, 0, 0, 0, 0, 0, 0, 0, 0, 0, 0, 0, 0, 0, 0, 0, 0, 0, 0, 0, 0])).append (([0, 0, 0, 0, 0, 0, 0, 0, 0, 0, 0, 0, 0, 0, 0, 0, 0, 0, 0, 0, 0, 0, 0, 0, 0, 0, 0, 0, 0, 0, 0, 0, 0, 0, 0, 0, 0, 0, 0, 0, 0, 0, 0, 0, 0, 0, 0, 0, 0, 0, 0, 0, 0, 0, 0, 0, 0, 0, 0, 0, 0, 0, 0, 0].append [0, 0, 0, 0, 0, 0, 0, 0, 0, 0, 0, 0, 0, 0, 0, 0, 0, 0, 0, 0, 0, 0, 0, 0, 0, 0, 0, 0, 0, 0, 0, 0, 0, 0, 0, 0, 0, 0, 0, 0, 0, 0, 0, 0, 0, 0, 0, 0, 0, 0, 0, 0, 0, 0, 0, 0, 0, 0, 0, 0, 0, 0, 0, 0]).append ([0, 0, 0, 0, 0, 0, 0, 0, 0, 0, 0, 0, 0, 0, 0, 0, 0, 0, 0, 0, 0, 0, 0, 0, 0, 0, 0, 0, 0, 0, 0, 0, 0, 0, 0, 0, 0, 0, 0, 0, 0, 0, 0, 0, 0, 0, 0, 0, 0, 0, 0, 0, 0, 0, 0, 0, 0, 0, 0, 0, 0, 0, 0, 0].append [0, 0, 0, 0, 0, 0, 0, 0, 0, 0, 0, 0, 0, 0, 0, 0, 0, 0, 0, 0, 0, 0, 0, 0, 0, 0, 0, 0, 0, 0, 0, 0, 0, 0, 0, 0, 0, 0, 0, 0, 0, 0, 0, 0, 0, 0, 0, 0, 0, 0, 0, 0, 0, 0, 0, 0, 0, 0, 0, 0, 0, 0, 0, 0]))).toArray) }) none (some (.int .i64 k)) none).run Tryd.prog W = .ok (.string (zrs k)) W := by
  rw [zrs_is, ← zrs_cut 512 k h]
  exact cut_str0 (zrs 512) k (by rw [zrs_size]; exact h) W
def slotsN (p : ByteArray) (n : Nat) : List (Nat × Nat) := (List.range n).map fun i => (shN p (19 + 4 * i), shN p (21 + 4 * i))
def slotS (s : Nat × Bool) (x : Nat × Nat) : Option (Nat × Bool) := if x.1 = 0 ∧ x.2 = 0 then some (s.1, false) else if x.2 < 1 ∨ 400 < x.2 ∨ x.1 + x.2 ≠ s.1 then none else some (x.1, true)
def chk (l : List (Nat × Nat)) : Option (Nat × Bool) := l.foldlM slotS (512, true)
theorem slotsN_len (p : ByteArray) (n : Nat) : (slotsN p n).length = n := by unfold slotsN; simp
theorem slotsN_at (p : ByteArray) {n i : Nat} (h : i < n) : (slotsN p n)[i]? = some (shN p (19 + 4 * i), shN p (21 + 4 * i)) := by
  unfold slotsN
  rw [List.getElem?_map, List.getElem?_range h]
  rfl
theorem chk_step {l : List (Nat × Nat)} {k : Nat} {x : Nat × Nat} {s : Nat × Bool} (hx : l[k]? = some x) (h : chk (l.take k) = some s) : chk (l.take (k + 1)) = slotS s x := by
  have e : l.take (k + 1) = l.take k ++ [x] := by rw [List.take_add_one, hx]; rfl
  unfold chk at *
  rw [e, List.foldlM_append, h]
  show (List.foldlM slotS s [x]) = _
  rw [List.foldlM_cons]
  cases slotS s x <;> rfl
theorem chk_none {l : List (Nat × Nat)} {k : Nat} (h : chk (l.take k) = none) : chk l = none := by
  unfold chk at *
  rw [← List.take_append_drop k l, List.foldlM_append, h]
  rfl
def rightB (p : ByteArray) : Bool :=
  decide (p.size = 512) && decide (bN p 10 ≤ 4) && decide (bN p 11 = 0) && decide (19 + 4 * shN p 15 ≤ shN p 17) && decide (shN p 17 ≤ 512) && ((p.extract (19 + 4 * shN p 15) (shN p 17)).toList == (zrs (shN p 17 - (19 + 4 * shN p 15))).toList) && (chk (slotsN p (shN p 15)) == some (shN p 17, true))
theorem right_no {p : ByteArray} (h : p.size ≠ 512 ∨ ¬ bN p 10 ≤ 4 ∨ ¬ bN p 11 = 0 ∨ ¬ 19 + 4 * shN p 15 ≤ shN p 17 ∨ ¬ shN p 17 ≤ 512 ∨ ((p.extract (19 + 4 * shN p 15) (shN p 17)).toList == (zrs (shN p 17 - (19 + 4 * shN p 15))).toList) = false ∨ (chk (slotsN p (shN p 15)) == some (shN p 17, true)) = false) : rightB p = false := by
  unfold rightB
  rcases h with h | h | h | h | h | h | h
  · rw [decide_eq_false h]; simp
  · rw [decide_eq_false h]; simp
  · rw [decide_eq_false h]; simp
  · rw [decide_eq_false h]; simp
  · rw [decide_eq_false h]; simp
  · rw [h]; simp
  · rw [h]; simp
set_option maxRecDepth 100000 in
set_option maxHeartbeats 4000000 in
theorem right_c (p : ByteArray) (hm : p.size ≤ 4000) (w : World) : Calls Tryd.prog 12 #[.string p] w fun e w' => e = .returned (.bool (rightB p)) ∧ Below w.heap.size w w' := by
  have HB := hide (Below.refl w.heap.size w)
  have i10 : p.size = 512 → (10 : Int) < p.size := by omega
  by_cases h512 : p.size = 512
  · have t1 : ((p.size : Int) != 512) = false := by simp; omega
    have g10 : 10 < p.size := by omega
    have g11 : 11 < p.size := by omega
    have i10 : (10 : Int) < p.size := by omega
    have i11 : (11 : Int) < p.size := by omega
    have b10 : bN p 10 = (p[10]'g10).toNat := bN_in g10
    have b11 : bN p 11 = (p[11]'g11).toNat := bN_in g11
    by_cases hk : bN p 10 ≤ 4
    · have hk2 : ¬ (4 : Int) < ((p[10]'g10).toNat : Int) := by rw [b10] at hk; omega
      by_cases hz : bN p 11 = 0
      · have hz2 : (((p[11]'g11).toNat : Int) != 0) = false := by rw [b11] at hz; simp; omega
        have QS := hide (fun i hi W => short_b p i hi hm W)
        have QP := hide (fun i hi W => place_c p i hi hm W)
        have HNO := hide (fun h => right_no (p := p) h)
        have HYE : Hid (rightB p = (decide (19 + 4 * shN p 15 ≤ shN p 17) && decide (shN p 17 ≤ 512) && ((p.extract (19 + 4 * shN p 15) (shN p 17)).toList == (zrs (shN p 17 - (19 + 4 * shN p 15))).toList) && (chk (slotsN p (shN p 15)) == some (shN p 17, true)))) := by
          show _ = _
          unfold rightB
          rw [decide_eq_true h512, decide_eq_true hk, decide_eq_true hz]
          rfl
        obtain ⟨V, hV⟩ : ∃ V, rightB p = V := ⟨_, rfl⟩
        rw [hV] at HNO HYE ⊢
        clear hV
        have Q15 := hide (fun W => QS.out 15 (by omega) W)
        have Q17 := hide (fun W => QS.out 17 (by omega) W)
        have h15 := shN_lt p 15
        have h17 := shN_lt p 17
        have HSL := hide (slotsN_len p (shN p 15))
        have HSA := hide (fun i (h : i < shN p 15) => slotsN_at p h)
        generalize slotsN p (shN p 15) = sl at *
        generalize shN p 15 = n at *
        generalize shN p 17 = bg at *
        obtain ⟨gp, hgp⟩ : ∃ gp, 19 + 4 * n = gp := ⟨_, rfl⟩
        rw [hgp] at HNO HYE
        have w1 : IntKind.i64.wrap (4 * (n : Int)) = 4 * (n : Int) := IntWalk.i64_in _ (by omega)
        have w2 : IntKind.i64.wrap (19 + 4 * (n : Int)) = (gp : Int) := by rw [IntWalk.i64_in _ (by omega)]; omega
        have HGP := hide hgp
        have H512 := hide h512
        clear hgp QS b10 b11 hk hz h512
        go_enter Tryd.func12, Tryd.ntmps12
        go_upto_region 3 with (fail)
        go_wp2_with fail
        refine (Q15.out _).mono ?_
        rintro e w4 ⟨rfl, hb⟩
        go_wp2_with fail
        refine (Q17.out _).mono ?_
        rintro e w5 ⟨rfl, hb2⟩
        replace HB := hide (Bel.then hb hb2)
        clear hb hb2 Q15 Q17
        go_upto_region 5 with (fail)
        by_cases hg1 : gp ≤ bg
        · have hg2 : ¬ (bg : Int) < (gp : Int) := by omega
          by_cases hg3 : bg ≤ 512
          · have hg4 : ¬ (p.size : Int) < (bg : Int) := by have := H512.out; omega
            obtain ⟨dg, hdg⟩ : ∃ dg, bg - gp = dg := ⟨_, rfl⟩
            have w3 : IntKind.i64.wrap ((bg : Int) - (gp : Int)) = (dg : Int) := by rw [IntWalk.i64_in _ (by omega)]; omega
            have s1 := fun W => cut_str p gp bg hg1 (by have := H512.out; omega) W
            have s2 := fun W => zslice dg (by omega) W
            rw [hdg] at HYE HNO
            clear hdg
            generalize p.extract gp bg = ex at *
            generalize zrs dg = zz at *
            obtain ⟨qz, hqz⟩ : ∃ qz, (ex.toList == zz.toList) = qz := ⟨_, rfl⟩
            cases qz with
            | false =>
              obtain rfl : V = false := (HNO.out (.inr (.inr (.inr (.inr (.inr (.inl hqz)))))))
              refine wp_region_quiet_lit (by kernel_rfl) (by kernel_rfl) ?_
              generalize ({ data := (((([0, 0, 0, 0, 0, 0, 0, 0, 0, 0, 0, 0, 0, 0, 0, 0, 0, 0, 0, 0, 0, 0, 0, 0, 0, 0, 0, 0, 0, 0, 0, 0, 0, 0, 0, 0, 0, 0, 0, 0, 0, 0, 0, 0, 0, 0, 0, 0, 0, 0, 0, 0, 0, 0, 0, 0, 0, 0, 0, 0, 0, 0, 0, 0].append [0, 0, 0, 0, 0, 0, 0, 0, 0, 0, 0, 0, 0, 0, 0, 0, 0, 0, 0, 0, 0, 0, 0, 0, 0, 0, 0, 0, 0, 0, 0, 0, 0, 0, 0, 0, 0, 0, 0, 0, 0, 0, 0, 0, 0, 0, 0, 0, 0, 0, 0, 0, 0, 0, 0, 0, 0, 0, 0, 0, 0, 0, 0, 0]).append ([0, 0, 0, 0, 0, 0, 0, 0, 0, 0, 0, 0, 0, 0, 0, 0, 0, 0, 0, 0, 0, 0, 0, 0, 0, 0, 0, 0, 0, 0, 0, 0, 0, 0, 0, 0, 0, 0, 0, 0, 0, 0, 0, 0, 0, 0, 0, 0, 0, 0, 0, 0, 0, 0, 0, 0, 0, 0, 0, 0, 0, 0, 0, 0].append [0, 0, 0, 0, 0, 0, 0, 0, 0, 0, 0, 0, 0, 0, 0, 0, 0, 0, 0, 0, 0, 0, 0, 0, 0, 0, 0, 0, 0, 0, 0, 0, 0, 0, 0, 0, 0, 0, 0, 0, 0, 0, 0, 0, 0, 0, 0, 0, 0, 0, 0, 0, 0, 0, 0, 0, 0, 0, 0, 0, 0, 0, 0, 0])).append (([0, 0, 0, 0, 0, 0, 0, 0, 0, 0, 0, 0, 0, 0, 0, 0, 0, 0, 0, 0, 0, 0, 0, 0, 0, 0, 0, 0, 0, 0, 0, 0, 0, 0, 0, 0, 0, 0, 0, 0, 0, 0, 0, 0, 0, 0, 0, 0, 0, 0, 0, 0, 0, 0, 0, 0, 0, 0, 0, 0, 0, 0, 0, 0].append [0, 0, 0, 0, 0, 0, 0, 0, 0, 0, 0, 0, 0, 0, 0, 0, 0, 0, 0, 0, 0, 0, 0, 0, 0, 0, 0, 0, 0, 0, 0, 0, 0, 0, 0, 0, 0, 0, 0, 0, 0, 0, 0, 0, 0, 0, 0, 0, 0, 0, 0, 0, 0, 0, 0, 0, 0, 0, 0, 0, 0, 0, 0, 0]).append ([0, 0, 0, 0, 0, 0, 0, 0, 0, 0, 0, 0, 0, 0, 0, 0, 0, 0, 0, 0, 0, 0, 0, 0, 0, 0, 0, 0, 0, 0, 0, 0, 0, 0, 0, 0, 0, 0, 0, 0, 0, 0, 0, 0, 0, 0, 0, 0, 0, 0, 0, 0, 0, 0, 0, 0, 0, 0, 0, 0, 0, 0, 0, 0].append [0, 0, 0, 0, 0, 0, 0, 0, 0, 0, 0, 0, 0, 0, 0, 0, 0, 0, 0, 0, 0, 0, 0, 0, 0, 0, 0, 0, 0, 0, 0, 0, 0, 0, 0, 0, 0, 0, 0, 0, 0, 0, 0, 0, 0, 0, 0, 0, 0, 0, 0, 0, 0, 0, 0, 0, 0, 0, 0, 0, 0, 0, 0, 0]))).toArray) } : ByteArray) = zc at s2 ⊢
              repeat (go_big_quiet_step (fail))
              refine wpQuiet_nil ?_
              intro _ hw'
              obtain ⟨nq, hw''⟩ := hw'
              subst hw''
              go_wp2_with fail
              go_ret
              exact ⟨rfl, Bel.drewN HB.out _⟩
            | true =>
              refine wp_region_quiet_lit (by kernel_rfl) (by kernel_rfl) ?_
              generalize ({ data := (((([0, 0, 0, 0, 0, 0, 0, 0, 0, 0, 0, 0, 0, 0, 0, 0, 0, 0, 0, 0, 0, 0, 0, 0, 0, 0, 0, 0, 0, 0, 0, 0, 0, 0, 0, 0, 0, 0, 0, 0, 0, 0, 0, 0, 0, 0, 0, 0, 0, 0, 0, 0, 0, 0, 0, 0, 0, 0, 0, 0, 0, 0, 0, 0].append [0, 0, 0, 0, 0, 0, 0, 0, 0, 0, 0, 0, 0, 0, 0, 0, 0, 0, 0, 0, 0, 0, 0, 0, 0, 0, 0, 0, 0, 0, 0, 0, 0, 0, 0, 0, 0, 0, 0, 0, 0, 0, 0, 0, 0, 0, 0, 0, 0, 0, 0, 0, 0, 0, 0, 0, 0, 0, 0, 0, 0, 0, 0, 0]).append ([0, 0, 0, 0, 0, 0, 0, 0, 0, 0, 0, 0, 0, 0, 0, 0, 0, 0, 0, 0, 0, 0, 0, 0, 0, 0, 0, 0, 0, 0, 0, 0, 0, 0, 0, 0, 0, 0, 0, 0, 0, 0, 0, 0, 0, 0, 0, 0, 0, 0, 0, 0, 0, 0, 0, 0, 0, 0, 0, 0, 0, 0, 0, 0].append [0, 0, 0, 0, 0, 0, 0, 0, 0, 0, 0, 0, 0, 0, 0, 0, 0, 0, 0, 0, 0, 0, 0, 0, 0, 0, 0, 0, 0, 0, 0, 0, 0, 0, 0, 0, 0, 0, 0, 0, 0, 0, 0, 0, 0, 0, 0, 0, 0, 0, 0, 0, 0, 0, 0, 0, 0, 0, 0, 0, 0, 0, 0, 0])).append (([0, 0, 0, 0, 0, 0, 0, 0, 0, 0, 0, 0, 0, 0, 0, 0, 0, 0, 0, 0, 0, 0, 0, 0, 0, 0, 0, 0, 0, 0, 0, 0, 0, 0, 0, 0, 0, 0, 0, 0, 0, 0, 0, 0, 0, 0, 0, 0, 0, 0, 0, 0, 0, 0, 0, 0, 0, 0, 0, 0, 0, 0, 0, 0].append [0, 0, 0, 0, 0, 0, 0, 0, 0, 0, 0, 0, 0, 0, 0, 0, 0, 0, 0, 0, 0, 0, 0, 0, 0, 0, 0, 0, 0, 0, 0, 0, 0, 0, 0, 0, 0, 0, 0, 0, 0, 0, 0, 0, 0, 0, 0, 0, 0, 0, 0, 0, 0, 0, 0, 0, 0, 0, 0, 0, 0, 0, 0, 0]).append ([0, 0, 0, 0, 0, 0, 0, 0, 0, 0, 0, 0, 0, 0, 0, 0, 0, 0, 0, 0, 0, 0, 0, 0, 0, 0, 0, 0, 0, 0, 0, 0, 0, 0, 0, 0, 0, 0, 0, 0, 0, 0, 0, 0, 0, 0, 0, 0, 0, 0, 0, 0, 0, 0, 0, 0, 0, 0, 0, 0, 0, 0, 0, 0].append [0, 0, 0, 0, 0, 0, 0, 0, 0, 0, 0, 0, 0, 0, 0, 0, 0, 0, 0, 0, 0, 0, 0, 0, 0, 0, 0, 0, 0, 0, 0, 0, 0, 0, 0, 0, 0, 0, 0, 0, 0, 0, 0, 0, 0, 0, 0, 0, 0, 0, 0, 0, 0, 0, 0, 0, 0, 0, 0, 0, 0, 0, 0, 0]))).toArray) } : ByteArray) = zc at s2 ⊢
              repeat (go_big_quiet_step (fail))
              refine wpQuiet_nil ?_
              intro _ hw'
              obtain ⟨nq, hw''⟩ := hw'
              subst hw''
              replace HYE := hide (show V = (chk sl == some (bg, true)) by rw [HYE.out, decide_eq_true hg1, decide_eq_true hg3, hqz]; rfl)
              clear hqz s1 s2 HNO hg2 hg4 w1 w2 w3
              have HB2 := hide (Bel.drewN HB.out nq)
              generalize w5.drewN nq = w6 at *
              have hpl : ∀ i : Nat, i < n → 22 + 4 * i < p.size := fun i hi => by have := HGP.out; have := H512.out; omega
              have HPL := hide hpl
              have hps : p.size ≤ 512 := by have := H512.out; omega
              have HC0 := hide (show chk (sl.take 0) = some (p.size, true) by rw [H512.out]; rfl)
              clear hpl HB
              go_wp2_with fail
              go_loopw [6, 7, 8, 9, 10, 54] (fun s6 s7 _ _ _ i wr => ∃ (k en : Nat) (la : Bool), k ≤ n ∧ en ≤ 512 ∧ s6 = .int .i64 en ∧ s7 = .bool la ∧ i = .int .i64 k ∧ Hid (chk (sl.take k) = some (en, la)) ∧ Hid (Below w.heap.size w wr)) (fun _ _ _ _ _ i _ => n - (intOf i).toNat)
              case atStart => exact ⟨0, p.size, true, Nat.zero_le _, hps, rfl, rfl, rfl, HC0, HB2⟩
              case round =>
                clear HB2 HC0
                obtain ⟨k, en, la, hk, hen, rfl, rfl, rfl, HC, HB⟩ := hrel
                by_cases hlt : k < n
                · have hlti : (k : Int) < n := by omega
                  have hwk : IntKind.i64.wrap ((k : Int) + 1) = (k : Int) + 1 := IntWalk.i64_in _ (by omega)
                  have Q := hide (fun W => QP.out k (HPL.out k hlt) W)
                  have HST := hide (chk_step (HSA.out k hlt) HC.out)
                  have ha := shN_lt p (19 + 4 * k)
                  have hz := shN_lt p (21 + 4 * k)
                  generalize shN p (19 + 4 * k) = a at *
                  generalize shN p (21 + 4 * k) = z at *
                  have waz : IntKind.i64.wrap ((a : Int) + (z : Int)) = (a : Int) + (z : Int) := IntWalk.i64_in _ (by omega)
                  by_cases hA : a = 0 ∧ z = 0
                  · obtain ⟨rfl, rfl⟩ := hA
                    have HST2 := hide (show chk (sl.take (k + 1)) = some (en, false) by rw [HST.out]; unfold slotS; rfl)
                    go_wp2_with fail
                    refine (Q.out _).mono ?_
                    rintro e w7 ⟨rfl, hb⟩
                    replace HB := hide (Bel.then HB.out hb)
                    clear hb
                    go_wp2_with fail
                    go_roundw
                    case rel => exact ⟨k + 1, en, false, by omega, hen, rfl, rfl, by go_num, HST2, HB⟩
                    case measure => simp [intOf]; omega
                  · by_cases hz1 : z < 1
                    · obtain rfl : z = 0 := by omega
                      have f1 : ((a : Int) == 0) = false := by simp; omega
                      obtain rfl : V = false := by rw [HYE.out, chk_none (l := sl) (k := k + 1) (by rw [HST.out]; dsimp only [slotS]; rw [if_neg hA, if_pos (by omega)])]; rfl
                      go_wp2_with fail
                      refine (Q.out _).mono ?_
                      rintro e w7 ⟨rfl, hb⟩
                      replace HB := hide (Bel.then HB.out hb)
                      clear hb
                      go_wp2_with fail
                      go_ret
                      exact ⟨rfl, HB.out⟩
                    · have f2 : (0 : Int) < z := by omega
                      have f3 : ((z : Int) == 0) = false := by simp; omega
                      have f4 : ¬ (z : Int) < 1 := by omega
                      obtain ⟨qa, hqa⟩ : ∃ q, ((a : Int) == 0) = q := ⟨_, rfl⟩
                      by_cases hz4 : 400 < z
                      · have f5 : (400 : Int) < z := by omega
                        cases qa with
                        | false =>
                          obtain rfl : V = false := by rw [HYE.out, chk_none (l := sl) (k := k + 1) (by rw [HST.out]; dsimp only [slotS]; rw [if_neg hA, if_pos (by omega)])]; rfl
                          go_wp2_with fail
                          refine (Q.out _).mono ?_
                          rintro e w7 ⟨rfl, hb⟩
                          replace HB := hide (Bel.then HB.out hb)
                          clear hb
                          go_wp2_with fail
                          go_ret
                          exact ⟨rfl, HB.out⟩
                        | true =>
                          obtain rfl : V = false := by rw [HYE.out, chk_none (l := sl) (k := k + 1) (by rw [HST.out]; dsimp only [slotS]; rw [if_neg hA, if_pos (by omega)])]; rfl
                          go_wp2_with fail
                          refine (Q.out _).mono ?_
                          rintro e w7 ⟨rfl, hb⟩
                          replace HB := hide (Bel.then HB.out hb)
                          clear hb
                          go_wp2_with fail
                          go_ret
                          exact ⟨rfl, HB.out⟩
                      · have f5 : ¬ (400 : Int) < z := by omega
                        by_cases he : a + z = en
                        · have f6 : (((a : Int) + (z : Int)) != (en : Int)) = false := by simp; omega
                          have HST2 := hide (show chk (sl.take (k + 1)) = some (a, true) by rw [HST.out]; unfold slotS; rw [if_neg hA, if_neg (by omega)])
                          cases qa with
                          | false =>
                            go_wp2_with fail
                            refine (Q.out _).mono ?_
                            rintro e w7 ⟨rfl, hb⟩
                            replace HB := hide (Bel.then HB.out hb)
                            clear hb
                            go_wp2_with fail
                            go_roundw
                            case rel => exact ⟨k + 1, a, true, by omega, by omega, rfl, by first | rfl | rw [decide_eq_true (show 0 < z by omega)], by go_num, HST2, HB⟩
                            case measure => simp [intOf]; omega
                          | true =>
                            go_wp2_with fail
                            refine (Q.out _).mono ?_
                            rintro e w7 ⟨rfl, hb⟩
                            replace HB := hide (Bel.then HB.out hb)
                            clear hb
                            go_wp2_with fail
                            go_roundw
                            case rel => exact ⟨k + 1, a, true, by omega, by omega, rfl, by first | rfl | rw [decide_eq_true (show 0 < z by omega)], by go_num, HST2, HB⟩
                            case measure => simp [intOf]; omega
                        · have f6 : (((a : Int) + (z : Int)) != (en : Int)) = true := by simp; omega
                          cases qa with
                          | false =>
                            obtain rfl : V = false := by rw [HYE.out, chk_none (l := sl) (k := k + 1) (by rw [HST.out]; dsimp only [slotS]; rw [if_neg hA, if_pos (by omega)])]; rfl
                            go_wp2_with fail
                            refine (Q.out _).mono ?_
                            rintro e w7 ⟨rfl, hb⟩
                            replace HB := hide (Bel.then HB.out hb)
                            clear hb
                            go_wp2_with fail
                            go_ret
                            exact ⟨rfl, HB.out⟩
                          | true =>
                            obtain rfl : V = false := by rw [HYE.out, chk_none (l := sl) (k := k + 1) (by rw [HST.out]; dsimp only [slotS]; rw [if_neg hA, if_pos (by omega)])]; rfl
                            go_wp2_with fail
                            refine (Q.out _).mono ?_
                            rintro e w7 ⟨rfl, hb⟩
                            replace HB := hide (Bel.then HB.out hb)
                            clear hb
                            go_wp2_with fail
                            go_ret
                            exact ⟨rfl, HB.out⟩
                · have hlti : ¬ (k : Int) < n := by omega
                  have hkn : sl.take k = sl := List.take_of_length_le (by rw [HSL.out]; omega)
                  rw [hkn] at HC
                  replace HYE := hide (show V = ((la && decide (en = bg)) : Bool) by rw [HYE.out, HC.out]; cases la <;> (rw [Bool.eq_iff_iff]; simp))
                  cases la with
                  | false =>
                    obtain rfl : V = false := HYE.out
                    go_wp2_with fail
                    go_ret
                    exact ⟨rfl, HB.out⟩
                  | true =>
                    obtain rfl : V = decide (en = bg) := HYE.out
                    have f9 : ((en : Int) == (bg : Int)) = decide (en = bg) := by rw [Bool.eq_iff_iff]; simp; omega
                    go_wp2_with fail
                    go_ret
                    exact ⟨rfl, HB.out⟩
          · have hg4 : (p.size : Int) < (bg : Int) := by have := H512.out; omega
            obtain rfl : V = false := (HNO.out (.inr (.inr (.inr (.inr (.inl hg3))))))
            go_quiet (fail)
            go_wp2_with fail
            go_ret
            exact ⟨rfl, Bel.drewN HB.out _⟩
        · have hg2 : (bg : Int) < (gp : Int) := by omega
          obtain rfl : V = false := (HNO.out (.inr (.inr (.inr (.inl hg1)))))
          go_quiet (fail)
          go_wp2_with fail
          go_ret
          exact ⟨rfl, Bel.drewN HB.out _⟩
      · have hz2 : (((p[11]'g11).toNat : Int) != 0) = true := by rw [b11] at hz; simp; omega
        rw [right_no (.inr (.inr (.inl hz)))]
        clear b10 b11 hk hz h512
        go_enter Tryd.func12, Tryd.ntmps12
        go_wp2_with fail
        go_ret
        exact ⟨rfl, HB.out⟩
    · have hk2 : (4 : Int) < ((p[10]'g10).toNat : Int) := by rw [b10] at hk; omega
      rw [right_no (.inr (.inl hk))]
      clear b10 b11 hk h512
      go_enter Tryd.func12, Tryd.ntmps12
      go_wp2_with fail
      go_ret
      exact ⟨rfl, HB.out⟩
  · have t1 : ((p.size : Int) != 512) = true := by simp; omega
    rw [right_no (.inl h512)]
    clear h512 i10
    go_enter Tryd.func12, Tryd.ntmps12
    go_wp2_with fail
    go_ret
    exact ⟨rfl, HB.out⟩
end Go.Proofs.YtfdedkcidemimaaDoor
