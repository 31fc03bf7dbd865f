/- The contract of lex.Tokens. -/
import Derived.Test.YtcmhnaanfkpheaaDoorLxW
import Derived.OwnWalk
namespace Go.Proofs.YtcmhnaanfkpheaaDoor
set_option linter.unusedVariables false
open Go.ChangeShapes Go.WideShapes Go.ChangeAt Go.RowKit

theorem tok_info : (Tryd.prog.info? 24).map (fun i => (i.zero, i.size, i.bytes)) = some (some (.agg #[.int .i64 0, .int .i64 0, .int .i64 0, .int .i64 0, .string { data := #[] }]), 5, 48) := by kernel_rfl
def tokCells (x : TokA) : List Value := [.int .i64 x.t.kind, .int .i64 x.at_, .int .i64 x.t.size, .int .i64 x.t.num, .string (strL x.t.str)]
/-- All tokens of a text; or where its first error is, and which. -/
def tokensS (l : List UInt8) : List TokA × Nat × Nat := if 2000 < l.length then ([], 0, 4) else tokensF l (l.length + 1) 0
def catF (xs : List TokA) (r : List TokA × Nat × Nat) : List TokA × Nat × Nat := if r.2.2 ≠ 0 then ([], r.2) else (xs ++ r.1, 0, 0)
theorem cat_cat (xs : List TokA) (x : TokA) (r : List TokA × Nat × Nat) : catF (xs ++ [x]) r = catF xs (if r.2.2 ≠ 0 then ([], r.2) else (x :: r.1, 0, 0)) := by
  unfold catF
  by_cases h : r.2.2 ≠ 0
  · rw [if_pos h, if_pos h, if_pos h]
  · rw [if_neg h, if_neg h, if_neg (by simp)]
    simp
theorem next_lies (l : List UInt8) (a : Nat) (ha : a ≤ l.length) : a ≤ (nextAt l a).at_ ∧ (nextAt l a).at_ ≤ l.length ∧ ((nextAt l a).t.err = 0 → (nextAt l a).t.kind ≠ 0 → 1 ≤ (nextAt l a).t.size ∧ (nextAt l a).at_ + (nextAt l a).t.size ≤ l.length) := by
  have hk := skip_le false (l.drop a)
  rw [List.length_drop] at hk
  unfold nextAt
  simp only
  split
  · exact ⟨by simp only; omega, by simp only; omega, fun _ h => absurd rfl h⟩
  · simp only
    refine ⟨by omega, by omega, fun he _ => ?_⟩
    obtain ⟨h1, h2, _⟩ := tok_size _ he
    rw [List.length_drop] at h2
    exact ⟨h1, by omega⟩
theorem tokF_step (l : List UInt8) (f a : Nat) : tokensF l (f + 1) a = if (nextAt l a).t.err ≠ 0 then ([], (nextAt l a).at_, (nextAt l a).t.err) else if (nextAt l a).t.kind = 0 then ([], 0, 0) else if (tokensF l f ((nextAt l a).at_ + (nextAt l a).t.size)).2.2 ≠ 0 then ([], (tokensF l f ((nextAt l a).at_ + (nextAt l a).t.size)).2) else (nextAt l a :: (tokensF l f ((nextAt l a).at_ + (nextAt l a).t.size)).1, 0, 0) := rfl
def GivesToks (w : World) (R : List TokA × Nat × Nat) (e : Ending) (w' : World) : Prop := ∃ v, e = .returned (.tuple #[v, .int .i64 R.2.1, .int .i64 R.2.2]) ∧ Below w.heap.size w w' ∧ w'.ownsRow w.heap.size 24 5 v R.1.length (R.1.map tokCells).flatten
theorem cells_len (xs : List TokA) : (xs.map tokCells).flatten.length = xs.length * 5 := by
  induction xs with
  | nil => rfl
  | cons x xs ih => rw [List.map_cons, List.flatten_cons, List.length_append, ih, List.length_cons]; show 5 + _ = _; omega
set_option maxRecDepth 100000 in
set_option maxHeartbeats 4000000 in
theorem tokens_c (s : ByteArray) (w : World) (hM : ∃ m, w.cell? ⟨1, 0, none⟩ = some (.int .i64 m)) (hm : s.size ≤ 1048576) : Calls Tryd.prog 12 #[.string s] w (GivesToks w (tokensS s.data.toList)) := by
  have hl := str_len s
  obtain ⟨i0, hi0, hz0, hz1, hz2⟩ := info_parts tok_info
  unfold tokensS
  rw [hl]
  by_cases h2 : 2000 < s.size
  · have h2i : (2000 : Int) < s.size := by omega
    rw [if_pos h2]
    go_enter Tryd.func12, Tryd.ntmps12
    go_wp2_with fail
    go_ret3
    exact ⟨_, rfl, Below.refl _ _, World.ownsRow_nil _ _ _ _⟩
  · have h2i : ¬ (2000 : Int) < s.size := by omega
    rw [if_neg h2]
    obtain ⟨R, hR⟩ : ∃ R, tokensF s.data.toList (s.size + 1) 0 = R := ⟨_, rfl⟩
    have HR0 : Hid (catF [] (tokensF s.data.toList (s.size + 1) 0) = R) := by
      show _ = _
      rw [← hR]
      unfold catF
      split
      · rw [tokF_step] at *
        rename_i h
        revert h
        split
        · intro _; rfl
        · split
          · intro h; exact absurd rfl h
          · split
            · intro _; rfl
            · intro h; exact absurd rfl h
      · rw [tokF_step] at *
        rename_i h
        revert h
        split
        · rename_i h3; intro h; exact absurd h3 h
        · split
          · intro _; rfl
          · split
            · rename_i h3; intro h; exact absurd h3 h
            · intro _; rfl
    rw [hR]
    have HM := hide hM
    clear hR hM
    go_enter Tryd.func12, Tryd.ntmps12
    go_wp2_with fail
    go_loopw [5, 6] (fun v iv wr => ∃ (xs : List TokA) (a f : Nat), iv = .int .i64 a ∧ a ≤ s.size ∧ s.size - a < f ∧ xs.length ≤ a ∧ Hid (catF xs (tokensF s.data.toList f a) = R) ∧ Hid (Below w.heap.size w wr) ∧ Hid (wr.ownsRow w.heap.size 24 5 v xs.length (xs.map tokCells).flatten)) (fun _ iv _ => s.size - (intOf iv).toNat)
    case atStart => exact ⟨[], 0, s.size + 1, rfl, Nat.zero_le _, by omega, Nat.le_refl _, HR0, Below.refl _ _, World.ownsRow_nil _ _ _ _⟩
    case round =>
      clear HR0
      obtain ⟨xs, a, f, rfl, ha, hf, hxa, HR, HB, HO⟩ := hrel
      obtain ⟨f, rfl⟩ : ∃ f', f = f' + 1 := ⟨f - 1, by omega⟩
      have QN := hide (next_c s a wr (max_kept HM.out HB.out) ha hm)
      obtain ⟨n1, n2, n3⟩ := next_lies s.data.toList a (by omega)
      have hst := tokF_step s.data.toList f a
      obtain ⟨x, hx⟩ : ∃ x, nextAt s.data.toList a = x := ⟨_, rfl⟩
      rw [hx] at QN n1 n2 n3 hst
      have HR2 := HR.out
      rw [hst] at HR2
      clear HR hst
      have HRR := hide HR2
      clear HR2
      go_wp2_with fail
      refine QN.out.mono ?_
      rintro e w2 ⟨rfl, hb⟩
      obtain ⟨b, K, S, N, U, E⟩ := x
      simp only at n1 n2 n3 HRR ⊢
      obtain ⟨o7, ho7⟩ : ∃ o7 : Obj, o7 = .cells #[.int .i64 K, .int .i64 b, .int .i64 S, .int .i64 N, .string (strL U)] 24 := ⟨_, rfl⟩
      have HX7 : Hid (TokBox (w2.alloc o7) w2.heap.size K b S N (strL U)) := by rw [ho7]; exact heap_alloc_new w2 _
      have hlt := (own_below HO.out hb).lt
      replace HO := hide ((own_below HO.out hb).alloc o7)
      have hw2 : w.heap.size ≤ w2.heap.size := (Bel.then HB.out hb).size
      replace HB := hide ((Bel.then HB.out hb).alloc hw2 o7)
      unfold tokAgg
      go_upto_region 6 with (fail)
      rw [← ho7]
      have HS3 : Hid ((w2.alloc o7).heap.size = w2.heap.size + 1) := World.size_alloc _ _
      have HLT := hide hlt
      clear ho7 QN hx hb hlt
      generalize w2.alloc o7 = w3 at *
      obtain ⟨⟨p0, p1, p2, p3, p4⟩, ⟨q0, q1, q2, q3, q4⟩⟩ := HX7.out.all
      by_cases hE : E = 0
      · subst hE
        by_cases hK : K = 0
        · subst hK
          obtain rfl : (xs, 0, 0) = R := by rw [← HRR.out, if_neg (by decide), if_pos rfl]; unfold catF; rw [if_neg (by simp)]; simp
          clear HRR
          go_wp2_with fail
          go_ret3
          exact ⟨_, rfl, HB.out, HO.out⟩
        · have hKi : ((K : Int) == 0) = false := by rw [beq_eq_false_iff_ne]; omega
          obtain ⟨s1, s2⟩ := n3 rfl hK
          have HR3 : Hid (catF (xs ++ [⟨b, ⟨K, S, N, U, 0⟩⟩]) (tokensF s.data.toList f (b + S)) = R) := by
            show _ = _
            rw [← HRR.out, if_neg (by decide), if_neg hK]
            exact cat_cat _ _ _
          have f1 : IntKind.i64.wrap ((b : Int) + (S : Int)) = ((b + S : Nat) : Int) := by rw [IntWalk.i64_in _ (by omega)]; omega
          clear HRR n3
          go_upto_region 11 with (at_builtin; refine wpList_app rfl (.tmp 27) (.tmp 29) 29 rfl w.heap.size 24 i0 _ 5 48 Tryd.underlying29 hi0 hz0 hz1 hz2 rfl (by omega) u5 xs.length _ rfl (HO.out.alloc _) _ _ 1 1 (tokCells ⟨b, ⟨K, S, N, U, 0⟩⟩) rfl rfl (cells_lit w3 #[.int .i64 K, .int .i64 b, .int .i64 S, .int .i64 N, .string (strL U)] 24) (by simp [tokCells, Value.oneCell']) (by simp only [maxLen]; omega) (by omega) (by have := HB.out.size; simp; omega) (by simp) ?_; intro v4 w4 hown4 hg4 hat4)
          have HX4 : Hid (TokBox w4 w2.heap.size K b S N (strL U)) := by
            have h : w4.heap[w2.heap.size]? = _ := hg4.block w2.heap.size (by have := HS3.out; rw [World.size_alloc]; omega) (fun h => by have := (HLT.out _ h.symm).2; omega)
            have h3 := (Bel.one w3 (.cells #[.int .i64 K, .int .i64 b, .int .i64 S, .int .i64 N, .string (strL U)] 24)).block w2.heap.size (by have := HS3.out; omega)
            exact (h.trans h3).trans HX7.out
          have HB4 := hide ((HB.out.alloc HB.out.size _).grown hg4 (by have := HB.out.size; rw [World.size_alloc]; omega) (fun q hq => (HO.out.lt q hq).1))
          obtain ⟨xs2, hxs2⟩ : ∃ xs2 : List TokA, xs2 = xs ++ [⟨b, ⟨K, S, N, U, 0⟩⟩] := ⟨_, rfl⟩
          have HO4 : Hid (w4.ownsRow w.heap.size 24 5 v4 xs2.length (xs2.map tokCells).flatten) := by
            show World.ownsRow _ _ _ _ _ _ _
            rw [hxs2, List.length_append, List.map_append, List.flatten_append]
            simpa using hown4
          have hl2 : xs2.length ≤ b + S := by rw [hxs2, List.length_append]; show xs.length + 1 ≤ _; omega
          rw [← hxs2] at HR3
          clear hxs2
          clear hown4 hg4 hat4 HX7 HB HO HS3 HLT p0 p1 p2 p3 p4 q0 q1 q2 q3 q4
          obtain ⟨⟨p0, p1, p2, p3, p4⟩, ⟨q0, q1, q2, q3, q4⟩⟩ := HX4.out.all
          clear HX4 q0 q1 q2 q3 q4 p0 p3 p4
          go_wp2_with fail
          go_roundw
          case rel => exact ⟨xs2, b + S, f, rfl, by omega, by omega, hl2, HR3, HB4, HO4⟩
          case measure => simp [intOf]; omega
      · have hEi : ((E : Int) == 0) = false := by rw [beq_eq_false_iff_ne]; omega
        have hEi2 : ((E : Int) != 0) = true := by rw [bne, hEi]; rfl
        obtain rfl : (([] : List TokA), b, E) = R := by rw [← HRR.out, if_pos hE]; unfold catF; rw [if_pos hE]
        clear HRR n3
        go_upto_region 7 with (fail)
        go_quiet (fail)
        go_wp2_with fail
        go_ret3
        exact ⟨_, rfl, HB.out.trans ⟨rfl, rfl, rfl, Nat.le_refl _, fun _ _ => rfl⟩, World.ownsRow_nil _ _ _ _⟩
end Go.Proofs.YtcmhnaanfkpheaaDoor
