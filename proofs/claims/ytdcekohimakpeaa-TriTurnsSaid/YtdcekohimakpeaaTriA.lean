/- The walks of the laws on package tri. -/
import Derived.Test.YtdcekohimakpeaaTri
import Derived.Test.YtdcekohimakpeaaTriTurnsFrame
import Derived.Test.YtdcekohimakpeaaTriJoinsFrame
import Derived.Lib.SmallJoins
namespace Go.Proofs.Ytdcekohimakpeaa
open Go.ChangeShapes Go.WideShapes Go.ChangeAt Go.RowKit

theorem sure_sure (a : Int) : sureI (sureI a) = sureI a := by unfold sureI; repeat' split <;> omega
theorem sure_of {s : Int} (h : 0 ≤ s) (h2 : s ≤ 2) : sureI s = s := by unfold sureI; split <;> omega
theorem not_bd (a : Int) : 0 ≤ notI a ∧ notI a ≤ 2 := by have := sureI_bd a; unfold notI; omega
theorem and_bd (a b : Int) : 0 ≤ andI a b ∧ andI a b ≤ 2 := by have := sureI_bd a; have := sureI_bd b; unfold andI; split <;> omega
theorem or_bd (a b : Int) : 0 ≤ orI a b ∧ orI a b ≤ 2 := by have := sureI_bd a; have := sureI_bd b; unfold orI; split <;> omega
theorem sn (a : Int) : sureI (notI a) = notI a := sure_of (not_bd a).1 (not_bd a).2
theorem sa (a b : Int) : sureI (andI a b) = andI a b := sure_of (and_bd a b).1 (and_bd a b).2
theorem so (a b : Int) : sureI (orI a b) = orI a b := sure_of (or_bd a b).1 (or_bd a b).2
theorem dm1 (a b : Int) : notI (andI a b) = orI (notI a) (notI b) := by
  unfold notI; rw [sa]; unfold orI; rw [show (2 - sureI a) = notI a from rfl, show (2 - sureI b) = notI b from rfl, sn, sn]; unfold andI notI; split <;> split <;> omega
theorem dm2 (a b : Int) : notI (orI a b) = andI (notI a) (notI b) := by
  unfold notI; rw [so]; unfold andI; rw [show (2 - sureI a) = notI a from rfl, show (2 - sureI b) = notI b from rfl, sn, sn]; unfold orI notI; split <;> split <;> omega
theorem nn (a : Int) : notI (notI a) = sureI a := by rw [show notI (notI a) = 2 - sureI (notI a) from rfl, sn]; unfold notI; omega

theorem fromValue20 (a : Int) (w : World) : Calls Try.prog 20 #[valueV a] w fun e w' => e = .returned (.int .i64 (sureI a)) ∧ Below w.heap.size w w' := by
  have hb := sureI_bd a
  have e : fromI (if sureI a = 1 then 0 else 1) (if sureI a = 2 then 1 else 0) = sureI a := by
    unfold fromI; repeat' split <;> omega
  have h := from20 (if sureI a = 1 then 0 else 1) (if sureI a = 2 then 1 else 0) ⟨#[]⟩ w
  rw [e] at h
  exact h

theorem turns5 (a b : Int) (w : World) : Calls Try.prog 5 #[.int .i64 a, .int .i64 b] w fun e w' => e = .returned (.bool true) ∧ Below w.heap.size w w' := by
  have e1 : (notI (andI a b) != orI (notI a) (notI b)) = false := by simp [dm1]
  have e2 : (notI (orI a b) != andI (notI a) (notI b)) = false := by simp [dm2]
  have e3 : (sureI a == notI (notI a)) = true := by simp [nn]
  by_cases hi : a = 0 ∨ a = 1 ∨ a = 2
  · have e4 : (notI (notI a) == a) = true := by rw [nn]; simp [sureI, hi]
    have e5 : decide (a = 0 ∨ a = 1 ∨ a = 2) = true := by simpa using hi
    clear hi
    go_enter Try.func5, Try.ntmps5
    go_wp2_with (first | (go_at_call 7; refine (awake7 _).mono ?_; rintro e w1 ⟨rfl, hb1⟩) | (go_at_call 14; refine (and14 _ _ _).mono ?_; rintro e w' ⟨rfl, rfl⟩) | (go_at_call 16; refine (or16 _ _ _).mono ?_; rintro e w' ⟨rfl, rfl⟩) | (go_at_call 12; refine (not12 _ _).mono ?_; rintro e w' ⟨rfl, rfl⟩) | (go_at_call 8; refine (is8 _ _).mono ?_; rw [e5]; rintro e w' ⟨rfl, rfl⟩) | (go_at_call 18; refine (value18 _ _).mono ?_; rintro e w2 ⟨rfl, hb2⟩) | (go_at_call 20; refine (fromValue20 _ _).mono ?_; rintro e w3 ⟨rfl, hb3⟩))
    go_ret
    exact ⟨rfl, (hb1.trans (hb2.mono hb1.size)).trans (hb3.mono (by have := hb1.size; have := hb2.size; omega))⟩
  · have e5 : decide (a = 0 ∨ a = 1 ∨ a = 2) = false := by simpa using hi
    clear hi
    go_enter Try.func5, Try.ntmps5
    go_wp2_with (first | (go_at_call 7; refine (awake7 _).mono ?_; rintro e w1 ⟨rfl, hb1⟩) | (go_at_call 14; refine (and14 _ _ _).mono ?_; rintro e w' ⟨rfl, rfl⟩) | (go_at_call 16; refine (or16 _ _ _).mono ?_; rintro e w' ⟨rfl, rfl⟩) | (go_at_call 12; refine (not12 _ _).mono ?_; rintro e w' ⟨rfl, rfl⟩) | (go_at_call 8; refine (is8 _ _).mono ?_; rw [e5]; rintro e w' ⟨rfl, rfl⟩) | (go_at_call 18; refine (value18 _ _).mono ?_; rintro e w2 ⟨rfl, hb2⟩) | (go_at_call 20; refine (fromValue20 _ _).mono ?_; rintro e w3 ⟨rfl, hb3⟩))
    go_ret
    exact ⟨rfl, (hb1.trans (hb2.mono hb1.size)).trans (hb3.mono (by have := hb1.size; have := hb2.size; omega))⟩

theorem joins_ac1 (a b : Int) : andI a b = andI b a := by unfold andI; split <;> split <;> omega
theorem joins_oc1 (a b : Int) : orI a b = orI b a := by unfold orI; split <;> split <;> omega
theorem joins_aa (a b c : Int) : andI a (andI b c) = andI (andI a b) c := by
  rw [show andI a (andI b c) = if sureI a < sureI (andI b c) then sureI a else sureI (andI b c) from rfl, show andI (andI a b) c = if sureI (andI a b) < sureI c then sureI (andI a b) else sureI c from rfl, sa, sa]
  unfold andI; repeat' split <;> omega
theorem joins_oo (a b c : Int) : orI a (orI b c) = orI (orI a b) c := by
  rw [show orI a (orI b c) = if sureI (orI b c) < sureI a then sureI a else sureI (orI b c) from rfl, show orI (orI a b) c = if sureI c < sureI (orI a b) then sureI (orI a b) else sureI c from rfl, so, so]
  unfold orI; repeat' split <;> omega
theorem joins_ao (a b c : Int) : andI a (orI b c) = orI (andI a b) (andI a c) := by
  rw [show andI a (orI b c) = if sureI a < sureI (orI b c) then sureI a else sureI (orI b c) from rfl, show orI (andI a b) (andI a c) = if sureI (andI a c) < sureI (andI a b) then sureI (andI a b) else sureI (andI a c) from rfl, so, sa, sa]
  unfold orI andI; repeat' split <;> omega
theorem joins_oa (a b : Int) : orI a (andI a b) = andI a (orI a b) := by
  rw [show andI a (orI a b) = if sureI a < sureI (orI a b) then sureI a else sureI (orI a b) from rfl, show orI a (andI a b) = if sureI (andI a b) < sureI a then sureI a else sureI (andI a b) from rfl, so, sa]
  unfold orI andI; repeat' split <;> omega

theorem joins6 (a b c : Int) (w : World) : Calls Try.prog 6 #[.int .i64 a, .int .i64 b, .int .i64 c] w fun e w' => e = .returned (.bool true) ∧ Below w.heap.size w w' := by
  have e1 : (andI a b != andI b a) = false := by rw [joins_ac1]; simp
  have e2 : (orI a b != orI b a) = false := by rw [joins_oc1]; simp
  have e3 : (andI a (andI b c) != andI (andI a b) c) = false := by rw [joins_aa]; simp
  have e4 : (orI a (orI b c) != orI (orI a b) c) = false := by rw [joins_oo]; simp
  have e5 : (andI a (orI b c) == orI (andI a b) (andI a c)) = true := by rw [joins_ao]; simp
  have e6 : (orI a (andI a b) == andI a (orI a b)) = true := by rw [joins_oa]; simp
  go_enter Try.func6, Try.ntmps6
  go_wp2_with (first | (go_at_call 7; refine (awake7 _).mono ?_; rintro e w1 ⟨rfl, hb1⟩) | (go_at_call 14; refine (and14 _ _ _).mono ?_; rintro e w' ⟨rfl, rfl⟩) | (go_at_call 16; refine (or16 _ _ _).mono ?_; rintro e w' ⟨rfl, rfl⟩))
  go_ret
  exact ⟨rfl, hb1⟩

/-- TriTurns returns true for every input, and changes nothing. -/
theorem triTurns_holds : Rows.TriTurnsSaid := triTurnsFrame.of_walk (by
  intro H enc W base v0 v1 d0 d1 p0 p1 k0 h0 k1 h1
  obtain ⟨a, rfl, _, _, _⟩ := open_int Try.underlying3 k0 h0
  obtain ⟨b, rfl, _, _, _⟩ := open_int Try.underlying3 k1 h1
  exact turns5 a b W)
theorem triJoins_holds : Rows.TriJoinsSaid := triJoinsFrame.of_walk (by
  intro H enc W base v0 v1 v2 d0 d1 d2 p0 p1 p2 k0 h0 k1 h1 k2 h2
  obtain ⟨a, rfl, _, _, _⟩ := open_int Try.underlying3 k0 h0
  obtain ⟨b, rfl, _, _, _⟩ := open_int Try.underlying3 k1 h1
  obtain ⟨c, rfl, _, _, _⟩ := open_int Try.underlying3 k2 h2
  exact joins6 a b c W)
end Go.Proofs.Ytdcekohimakpeaa
