/- The contract of rowcode.Get. -/
import Derived.Test.YtebamnlknaoehaaRcH
namespace Go.Proofs.Ytebamnlknaoehaa
set_option linter.unusedVariables false
open Go.ChangeShapes Go.WideShapes Go.ChangeAt Go.RowKit

/-- What Get gives: the error, and the row in new memory. -/
def GivesG (w : World) (x : Int × List ValV) (e : Ending) (w' : World) : Prop := ∃ A c, e = .returned (.tuple #[.slice A x.2.length c, .int .i64 x.1]) ∧ (RowAt w' w'.heap.size A x.2.length c x.2 ∧ FreshA w.heap.size A) ∧ Below w.heap.size w w'
theorem gives_nil (w w' : World) (e : Int) (hb : Below w.heap.size w w') : GivesG w (e, []) (.returned (.tuple #[.slice none 0 0, .int .i64 e])) w' := ⟨none, 0, rfl, ⟨SlAt.empty _ _ _ _, fun _ h => by cases h⟩, hb⟩
theorem fresh_of_own {w : World} {base size n c : Nat} {e : TypeId} {A : Option Addr} {xs : List Value} (h : w.ownsRow base e size (.slice A n c) n xs) : FreshA base A := by
  intro ad hA
  subst hA
  rcases h.2 with ⟨hv, _⟩ | ⟨g, cap, cur, hv, hb, _⟩
  · cases hv
  · injection hv with h1 _ _
    injection h1 with h1
    rw [h1]
    exact hb
theorem rd_new (w : World) (s : ByteArray) : RdAt (w.alloc (.cells #[.string s, .int .i64 0, .int .i64 0] 74)) w.heap.size s ((0 : Nat) : Int) 0 := heap_alloc_new w _
theorem Leaves.fromNew {s : ByteArray} {a e : Int} {w w1 : World} {o : Obj} (h : Leaves w.heap.size s a e (w.alloc o) w1) : Below w.heap.size w w1 :=
  ((Below.refl _ _).alloc (Nat.le_refl _) o).grown h.2 (by rw [World.size_alloc]; omega) (fun k hk => by injection hk with hk; omega)
theorem value_info : (Try.prog.info? 49).map (fun i => (i.zero, i.size, i.bytes)) = some (some (.agg #[.int .i64 0, .int .i64 0, .string .empty]), 3, 32) := by kernel_rfl
theorem valCells_len (v : ValV) : (valCells v).length = 3 := rfl
/-- As far as the row has been read, all is well: k values in a row of the call's own. -/
def GetOk (w wr : World) (s : ByteArray) (n k : Nat) (X : Int × List ValV) (u : Value) : Prop :=
  Below w.heap.size w wr ∧ ∃ (a : Nat) (vs : List ValV), a ≤ s.size ∧ vs.length = k ∧ RdAt wr w.heap.size s a 0 ∧ preG vs (rowsG (n - k) (s.data.toList.drop a)) = X ∧ wr.ownsRow w.heap.size 49 3 u k (vs.map valCells).flatten ∧ (u.ownBlock = none ∨ u.ownBlock ≠ some w.heap.size)
def GetBad (w wr : World) (s : ByteArray) (X : Int × List ValV) : Prop := Below w.heap.size w wr ∧ ∃ a e, e ≠ 0 ∧ RdAt wr w.heap.size s a e ∧ X = (e, [])
theorem get_step {w wr : World} {s : ByteArray} {n k : Nat} {X : Int × List ValV} {u : Value} (hm : s.size ≤ 1048576) (hk : k < n) (h : GetOk w wr s n k X u) :
    Calls Try.prog 44 #[.pointer (some ⟨w.heap.size, 0, none⟩)] wr fun e w1 => ∃ (v : ValV) (xs : List Value), e = .returned (valAgg v) ∧ Below w.heap.size w w1 ∧ w.heap.size < w1.heap.size ∧ w1.ownsRow w.heap.size 49 3 u k xs ∧ (u.ownBlock = none ∨ u.ownBlock ≠ some w.heap.size) ∧
      ∀ w2 u2, w2.heap[w.heap.size]? = w1.heap[w.heap.size]? → Below w.heap.size w w2 → w2.ownsRow w.heap.size 49 3 u2 (k + 1) (xs ++ valCells v) → (u2.ownBlock = none ∨ u2.ownBlock ≠ some w.heap.size) → (GetOk w w2 s n (k + 1) X u2 ∨ GetBad w w2 s X) := by
  obtain ⟨hb, a, vs, ha, hvs, hR, hX, hown, hne⟩ := h
  refine (value_c w.heap.size s a wr hR ha (by omega)).mono ?_
  intro e w1 h1
  obtain ⟨j, hj⟩ : ∃ j, n - k = j + 1 := ⟨n - k - 1, by omega⟩
  rw [hj] at hX
  cases ht : takeG (s.data.toList.drop a) with
  | bad c =>
    rw [ht] at h1
    obtain ⟨v, a', rfl, hL⟩ := h1
    have hc := bad_of ht
    rw [rowsG_step_bad ht, preG_bad vs (by omega)] at hX
    refine ⟨v, _, rfl, hb.grown hL.2 hb.size (fun k hk => by injection hk with hk; omega), hL.1.lt, hown.kept hL.2 hne, hne, fun w2 u2 hg hb2 ho hn => .inr ⟨hb2, a', c, by omega, ?_, hX.symm⟩⟩
    exact hg.trans hL.1
  | val v r =>
    rw [ht] at h1
    obtain ⟨a', rfl, hL, hd, ha'⟩ := h1
    rw [rowsG_step ht, preG_app] at hX
    refine ⟨v, _, rfl, hb.grown hL.2 hb.size (fun k hk => by injection hk with hk; omega), hL.1.lt, hown.kept hL.2 hne, hne, fun w2 u2 hg hb2 ho hn => .inl ⟨hb2, a', vs ++ [v], ha', by simp [hvs], hg.trans hL.1, ?_, ?_, hn⟩⟩
    · rw [show n - (k + 1) = j by omega, hd]
      exact hX
    · simpa using ho
set_option maxRecDepth 100000 in
set_option maxHeartbeats 1000000 in
theorem getR_c (s : ByteArray) (w : World) (hm : s.size ≤ 1048576) :
    Calls Try.prog 28 #[.string s] w (GivesG w (getG s.data.toList)) := by
  have hl := str_len s
  unfold getG
  by_cases h4 : 400 < s.size
  · rw [if_pos (by omega)]
    go_enter Try.func28, Try.ntmps28
    go_wp2_with fail
    go_ret2
    exact gives_nil _ _ _ (Below.refl _ _)
  · rw [if_neg (by omega)]
    by_cases h0 : s.size = 0
    · have hn : s.data.toList = [] := List.eq_nil_of_length_eq_zero (by omega)
      rw [hn]
      have Q := hide (oct_short w.heap.size s 0 _ (rd_new w s) (by omega))
      go_enter Try.func28, Try.ntmps28
      go_wp2_with fail
      refine Q.out.mono ?_
      rintro e w1 ⟨rfl, h1⟩
      obtain ⟨c0, c1, c2, z1, z2⟩ := h1.1.cells
      have HB := hide h1.fromNew
      clear h1 Q
      go_wp2_with fail
      refine wp_loop_rounds 2 ?_
      rw [rounds_succ]
      go_wp2_with fail
      go_region
      go_wp2_with fail
      go_ret2
      exact gives_nil _ _ _ HB.out.drew
    · have hlt : 0 < s.size := by omega
      have hd := drop_str hlt
      rw [List.drop_zero] at hd
      rw [hd]
      simp only
      have Q := hide (oct_ok w.heap.size s 0 _ (rd_new w s) hlt (by omega))
      have hc := s[0].toNat_lt
      generalize s[0].toNat = n at *
      clear hd
      by_cases h32 : 32 < n
      · rw [if_pos h32]
        go_enter Try.func28, Try.ntmps28
        go_wp2_with fail
        refine Q.out.mono ?_
        rintro e w1 ⟨rfl, h1⟩
        have QF := hide (fail_yes w.heap.size s _ 4 w1 h1.1)
        have H1 := hide h1
        clear h1 Q
        go_wp2_with fail
        refine QF.out.mono ?_
        rintro e w2 ⟨rfl, h2⟩
        obtain ⟨c0, c1, c2, z1, z2⟩ := h2.1.cells
        have HB := hide (Leaves.fromNew (H1.out.then h2))
        clear h2 QF H1
        go_wp2_with fail
        refine wp_loop_rounds 2 ?_
        rw [rounds_succ]
        go_wp2_with fail
        go_region
        go_wp2_with fail
        go_ret2
        exact gives_nil _ _ _ HB.out.drew
      · rw [if_neg h32]
        go_enter Try.func28, Try.ntmps28
        go_wp2_with fail
        refine Q.out.mono ?_
        rintro e w1 ⟨rfl, h1⟩
        have hI : GetOk w w1 s n 0 (rowsG n (s.data.toList.drop 1)) (.slice none 0 0) ∨ GetBad w w1 s (rowsG n (s.data.toList.drop 1)) := by
          refine .inl ⟨h1.fromNew, 1, [], hlt, rfl, h1.1, preG_nil_of _ ?_, World.ownsRow_nil _ _ _ _, .inl rfl⟩
          intro he
          rcases rowsG_err n (s.data.toList.drop 1) with h | h
          · exact absurd h he
          · exact h.2
        have HI := hide hI
        obtain ⟨i0, hi0, hz0, hz1, hz2⟩ := info_parts value_info
        generalize rowsG n (s.data.toList.drop 1) = X at *
        clear h1 Q hI
        have hn8 : n ≤ 32 := by omega
        go_wp2_with fail
        go_loopw [6, 7] (fun u i wr => ∃ k : Nat, k ≤ n ∧ i = .int .i64 k ∧ Hid (GetOk w wr s n k X u ∨ GetBad w wr s X)) (fun _ i _ => n - (intOf i).toNat)
        case atStart => exact ⟨0, Nat.zero_le _, rfl, HI⟩
        case round =>
          clear HI
          obtain ⟨k, hk, rfl, HI⟩ := hrel
          rcases HI.out with hok | ⟨hb, a, e, he, hR, hX⟩
          · by_cases hkn : k < n
            · have Q := hide (get_step hm hkn hok)
              obtain ⟨_, a, vs, _, _, hR, _⟩ := hok
              obtain ⟨c0, c1, c2, z1, z2⟩ := hR.cells
              clear hR HI
              go_wp2_with fail
              refine Q.out.mono ?_
              rintro e w2 ⟨⟨vk, vn, vs⟩, xs, rfl, hb2, hlt2, hown, hne, hnext⟩
              have HN := hide hnext
              have HB2 := hide hb2
              clear hnext hb2 Q c0 c1 c2 z1 z2
              unfold valAgg
              go_wp2_with (at_builtin; refine wpList_app rfl (.tmp 27) (.tmp 29) 23 rfl w.heap.size 49 i0 _ 3 32 Try.underlying23 hi0 hz0 hz1 hz2 rfl (by omega) u6 k _ rfl (hown.alloc _) _ _ 1 1 (valCells ⟨vk, vn, vs⟩) rfl rfl (cells_lit w2 #[.int .i64 vk, .int .i64 vn, .string vs] 49) (by simp [valCells, Value.oneCell']) (by simp only [maxLen]; omega) (by omega) (by have := HB2.out.size; simp; omega) (by simp) ?_; intro v3 w3 hown3 hg3 hat3)
              have HI3 := hide (HN.out w3 v3 ((hg3.block w.heap.size (by rw [World.size_alloc]; omega) (by rcases hne with h | h; (· rw [h]; simp); (· exact fun e => h e.symm))).trans (Lib.alloc_old w2 _ _ hlt2)) ((HB2.out.alloc HB2.out.size _).grown hg3 (by rw [World.size_alloc]; omega) (fun k hk => (hown.lt k hk).1)) hown3 (by
                rcases hat3 with h | h
                · rw [h]; exact hne
                · right; rw [h, World.size_alloc]; intro e; injection e; omega))
              clear hown3 hg3 hat3 HN HB2 hown hne
              go_wp2_with fail
              go_roundw
              case rel => exact ⟨k + 1, by omega, by go_num, HI3⟩
              case measure => simp [intOf]; omega
            · obtain rfl : k = n := by omega
              obtain ⟨hb, a, vs, ha, hvs, hR, hX, hown, _⟩ := hok
              obtain ⟨c0, c1, c2, z1, z2⟩ := hR.cells
              rw [Nat.sub_self] at hX
              have HB := hide hb
              by_cases has : a < s.size
              · rw [drop_str has] at hX
                have hX2 : preG vs (2, []) = X := hX
                rw [preG_bad vs (by omega)] at hX2
                subst hX2
                have QF := hide (fail_yes w.heap.size s _ 2 wr hR)
                have hgb : ∀ w', Leaves w.heap.size s (a : Int) 2 wr w' → Below w.heap.size w w' := fun w' h => hb.grown h.2 hb.size (fun k hk => by injection hk with hk; omega)
                have HG := hide hgb
                clear hX hR hb hown HI hgb
                go_wp2_with fail
                refine QF.out.mono ?_
                rintro e w2 ⟨rfl, h2⟩
                have HB2 := hide (HG.out _ h2)
                obtain ⟨c0, c1, c2, z1, z2⟩ := h2.1.cells
                clear h2 QF HG
                go_wp2_with fail
                go_region
                go_wp2_with fail
                go_ret2
                exact gives_nil _ _ _ HB2.out.drew
              · rw [drop_end (by omega)] at hX
                have hX2 : preG vs (0, []) = X := hX
                rw [preG_ok, List.append_nil] at hX2
                subst hX2
                rw [← hvs] at hown
                obtain ⟨A, c, rfl, hS⟩ := sl_of_own hown valCells_len
                have HS := hide hS
                have HF := hide (fresh_of_own hown)
                have hvs2 : vs.length = k := hvs
                clear hX hR hb hown HI hS
                go_wp2_with fail
                go_ret2
                exact ⟨A, c, rfl, ⟨HS.out, HF.out⟩, HB.out⟩
          · obtain ⟨c0, c1, c2, z1, z2⟩ := hR.cells
            have he2 : (e == 0) = false := by simpa using he
            have HB := hide hb
            subst hX
            clear HI hb hR
            by_cases hkn : k < n
            · go_wp2_with fail
              go_region
              go_wp2_with fail
              go_ret2
              exact gives_nil _ _ _ HB.out.drew
            · go_wp2_with fail
              go_region
              go_wp2_with fail
              go_ret2
              exact gives_nil _ _ _ HB.out.drew
end Go.Proofs.Ytebamnlknaoehaa
