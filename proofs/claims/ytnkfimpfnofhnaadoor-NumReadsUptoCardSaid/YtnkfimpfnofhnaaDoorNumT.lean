/- Contracts of num.Text and num.Parse, out of the contracts of strconv's Itoa and Atoi; what the listed variables give. -/
import Derived.Test.YtnkfimpfnofhnaaDoorNumB
import Derived.Test.YtnkfimpfnofhnaaDoorLib2
import Derived.Test.YtnkfimpfnofhnaaDoorShelf
import Derived.Lib.LaidTab
import Derived.Stop.LaidErr
import Derived.WalkSmall
import Derived.Lib.AtoiErrMem
import Derived.MakeChecks
namespace Go.Proofs.YtnkfimpfnofhnaaDoor
set_option linter.unusedVariables false
open Go.ChangeShapes Go.WideShapes Go.ChangeAt Go.RowKit

theorem gPow : Tryd.prog.globalNamed "internal/strconv.uint64pow10" = some 2 := by kernel_rfl
theorem gSyn : Tryd.prog.globalNamed "strconv.ErrSyntax" = some 0 := by kernel_rfl
theorem gRan : Tryd.prog.globalNamed "strconv.ErrRange" = some 1 := by kernel_rfl
/-- What the walks are told of the library's variables: the table of powers, the two errors. -/
structure NumW (W : World) : Prop where
  tab : Lib.TabIs Tryd.prog W "internal/strconv.uint64pow10" .u64 Lib.pow10Tab
  syn : ∃ tp p, W.var? Tryd.prog "strconv.ErrSyntax" = some #[.iface tp p]
  ran : ∃ tp p, W.var? Tryd.prog "strconv.ErrRange" = some #[.iface tp p]
theorem var_lt {P : Program} {W : World} {n : String} {g : Nat} {cs : Array Value} (hg : P.globalNamed n = some g) (h : W.var? P n = some cs) : g < W.heap.size := by
  unfold World.var? at h
  simp only [hg, Option.bind_some] at h
  rcases Nat.lt_or_ge g W.heap.size with hlt | hge
  · exact hlt
  · rw [Array.getElem?_eq_none hge] at h; simp at h
theorem NumW.keep {W W' : World} (h : NumW W) (hb : Below W.heap.size W W') : NumW W' := by
  obtain ⟨ht, ⟨t1, p1, h1⟩, ⟨t2, p2, h2⟩⟩ := h
  exact ⟨Joins.tab_stays gPow ht hb (Nat.le_refl _), ⟨t1, p1, var?_below hb gSyn (var_lt gSyn h1) h1⟩, ⟨t2, p2, var?_below hb gRan (var_lt gRan h2) h2⟩⟩
theorem below_grown (w : World) (n : Nat) (os : Array Obj) : Below w.heap.size w (Sort.grow (w.drewN n) os) :=
  ⟨rfl, rfl, rfl, by show w.heap.size ≤ (w.heap ++ os).size; rw [Array.size_append]; omega, fun _ hj => Sort.heap_grow_old (w.drewN n) os hj⟩

theorem text_c (n : Int) (h0 : -9223372036854775808 ≤ n) (h1 : n ≤ 9223372036854775807) (w : World) (hW : NumW w) :
    Calls Tryd.prog 24 #[.int .i64 n] w fun e w' => e = .returned (.string ⟨(Lib.itoa n).toArray⟩) ∧ Below w.heap.size w w' := by
  have HW := hide hW
  clear hW
  have HC := hide (Tryd.strconv_Itoa n h0 h1 w HW.out.tab)
  clear h0 h1
  go_enter Tryd.func24, Tryd.ntmps24
  go_wp2_with fail
  refine HC.out.mono ?_
  rintro e w' ⟨rfl, k, os, hw⟩
  have hb := below_grown w k os
  rw [← hw] at hb
  clear hw
  go_wp2_with fail
  go_ret
  exact ⟨rfl, hb⟩
def parseP (s : ByteArray) : Int × Bool := match Lib.atoiAll s.data.toList with
  | .ok v => if inN v && (Lib.itoa v == s.toList) then (v, true) else (0, false)
  | _ => (0, false)
theorem parse_c (s : ByteArray) (hl : s.size ≤ 1099511627776) (w : World) (hW : NumW w) :
    Calls Tryd.prog 25 #[.string s] w fun e w' => e = .returned (.tuple #[.int .i64 (parseP s).1, .bool (parseP s).2]) ∧ Below w.heap.size w w' := by
  have HW := hide hW
  clear hW
  cases h : Lib.atoiAll s.data.toList with
  | «syntax» =>
    obtain ⟨tp, p, hv⟩ := HW.out.syn
    have HC := hide (Tryd.strconv_Atoi_syntax_var s (by omega) h tp p w hv)
    have HP : Hid (parseP s = (0, false)) := by show parseP s = _; unfold parseP; rw [h]
    clear h hv hl
    go_enter Tryd.func25, Tryd.ntmps25
    go_wp2_with fail
    refine HC.out.mono ?_
    rintro e w' ⟨N, rfl, _, _, hb⟩
    go_wp2_with fail
    go_ret2
    exact ⟨ret_xb HP.out, hb⟩
  | range =>
    obtain ⟨tp, p, hv⟩ := HW.out.ran
    have HC := hide (Tryd.strconv_Atoi_range_var s (by omega) h tp p w hv)
    have HP : Hid (parseP s = (0, false)) := by show parseP s = _; unfold parseP; rw [h]
    clear h hv hl
    go_enter Tryd.func25, Tryd.ntmps25
    go_wp2_with fail
    refine HC.out.mono ?_
    rintro e w' ⟨N, rfl, _, _, hb⟩
    go_wp2_with fail
    go_ret2
    exact ⟨ret_xb HP.out, hb⟩
  | ok v =>
    have HC := hide (Tryd.strconv_Atoi_ok s (by omega) v h w)
    have HP : Hid (parseP s = if inN v && (Lib.itoa v == s.toList) then (v, true) else (0, false)) := by show parseP s = _; unfold parseP; rw [h]
    clear h hl
    cases hi : inN v
    · have HI := hide hi
      clear hi
      go_enter Tryd.func25, Tryd.ntmps25
      go_wp2_with fail
      refine HC.out.mono ?_
      rintro e w' ⟨rfl, hw⟩
      have hb : Below w.heap.size w w' := by
        rcases hw with rfl | ⟨t, rfl⟩
        · exact Below.refl _ _
        · exact Lib.bytesWorld_below _ _ _
      clear hw
      go_wp2_with (first | (go_at_call 15; refine (in_c _ _).mono ?_; rw [HI.out]; rintro e w' ⟨rfl, rfl⟩))
      go_ret2
      exact ⟨ret_xb (by rw [HP.out, HI.out]; rfl), hb⟩
    · have hbd := (inN_iff v).1 hi
      have HI := hide hi
      clear hi
      cases he : Lib.itoa v == s.toList
      all_goals
        have HE := hide he
        go_enter Tryd.func25, Tryd.ntmps25
        go_wp2_with fail
        refine HC.out.mono ?_
        rintro e w' ⟨rfl, hw⟩
        have hb : Below w.heap.size w w' := by
          rcases hw with rfl | ⟨t, rfl⟩
          · exact Below.refl _ _
          · exact Lib.bytesWorld_below _ _ _
        clear hw
        have HW2 := hide (HW.out.keep hb)
        have HB := hide hb
        clear hb
        go_wp2_with (first | (go_at_call 15; refine (in_c _ _).mono ?_; rw [HI.out]; rintro e w' ⟨rfl, rfl⟩) | (go_at_call 24; refine (text_c _ (by omega) (by omega) _ HW2.out).mono ?_; rintro e w' ⟨rfl, hb⟩))
        go_ret2
        exact ⟨ret_xb (by rw [HP.out, HI.out, HE.out]; rfl), Bel.then HB.out hb⟩
end Go.Proofs.YtnkfimpfnofhnaaDoor
