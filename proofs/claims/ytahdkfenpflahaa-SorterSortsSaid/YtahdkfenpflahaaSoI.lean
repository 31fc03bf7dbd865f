/- What sorter.Runs gives by pieces of two: how many. (The law's own example asks no more. SorterRuns will want the pieces as well.) -/
import Derived.Test.YtahdkfenpflahaaSoH
namespace Go.Proofs.Ytahdkfenpflahaa
set_option linter.unusedVariables false
open Go.ChangeShapes Go.WideShapes Go.ChangeAt Go.RowKit

theorem rows_info : (Try.prog.info? 29).map (fun i => (i.zero, i.size, i.bytes)) = some (some (.slice none 0 0), 1, 24) := by kernel_rfl
set_option maxRecDepth 100000 in
set_option maxHeartbeats 2000000 in
theorem Runs2_c (A A3 : Option Addr) (n c n3 c3 : Nat) (rows : List (List ValV)) (ks : List (Int × Bool)) (w : World) (h : RowsAt w w.heap.size A n c rows) (hk : KeysAt w w.heap.size A3 n3 c3 ks) (hn : n ≤ 1048576) (hr : ∀ r ∈ rows, r.length ≤ 1048576) :
    Calls Try.prog 18 #[.slice A n c, .slice A3 n3 c3, .int .i64 2] w fun e w' => ∃ X cx, e = .returned (.slice X ((n + 1) / 2) cx) ∧ Below w.heap.size w w' := by
  obtain ⟨i0, hi0, hz0, hz1, hz2⟩ := info_parts rows_info
  obtain ⟨ps, hps, hsnd⟩ := HsAt.of_nest h
  have HP := hide hps
  have HR : Hid (∀ p ∈ ps, p.2.length ≤ 1048576) := fun p hp => hr p.2 (by rw [← hsnd]; exact List.mem_map.2 ⟨p, hp, rfl⟩)
  have HK := hide hk
  obtain ⟨N, hN⟩ : ∃ N, (n + 1) / 2 = N := ⟨_, rfl⟩
  rw [hN]
  have HO : Hid (w.ownsRow w.heap.size 29 1 (.slice none 0 0) 0 []) := ⟨rfl, .inl ⟨rfl, rfl⟩⟩
  clear h hps hsnd hr hk
  have hmax : max (2 : Int) 1 = 2 := by decide
  go_enter Try.func18, Try.ntmps18
  go_wp2_with fail
  go_loopw [0, 7] (fun l v wr => ∃ (B : Option Addr) (m d k : Nat) (qs : List HRow) (xs : List Value), l = .slice B m d ∧ m ≤ n ∧ k + (m + 1) / 2 = N ∧ Hid (HsAt w B m d qs) ∧ Hid (∀ p ∈ qs, p.2.length ≤ 1048576) ∧ Hid (wr.ownsRow w.heap.size 29 1 v k xs) ∧ Hid (Below w.heap.size w wr)) (fun l _ _ => lenV l)
  case atStart => exact ⟨A, n, c, 0, ps, [], rfl, Nat.le_refl _, by omega, HP, HR, HO, Below.refl _ _⟩
  case round =>
    clear HP HR HO
    obtain ⟨B, m, d, k, qs, xs, rfl, hm, hkm, HP, HR, HO, HB⟩ := hrel
    by_cases h0 : 0 < m
    · have h0i : (0 : Int) < m := by omega
      obtain ⟨j, hj⟩ : ∃ j, min 2 m = j := ⟨_, rfl⟩
      have hj1 : j ≤ m := by omega
      have hj2 : 1 ≤ j := by omega
      have hmin : min (2 : Int) (m : Int) = (j : Int) := by omega
      have hmin2 : min (m : Int) (2 : Int) = (j : Int) := by omega
      have hd := HP.out.sl.cap
      have hf1 := fun W => front_run (A := B) (n := m) (c := d) (k := j) (by omega) W
      have hf2 := fun W => back_run (A := B) (n := m) (c := d) (j := j) hj1 W
      have Q := hide (fun (W : World) (hW : Below w.heap.size w W) => Sort_c (fstA d B) A3 j d n3 c3 ((qs.take j).map Prod.snd) ks W (hs_front (HP.out.kept hW) hj1).nest (HK.out.kept hW) (by omega) (fun r hr' => by
        obtain ⟨p, hp, rfl⟩ := List.mem_map.1 hr'
        exact HR.out p (List.mem_of_mem_take hp)))
      have HP2 := hide (hs_back HP.out hj1)
      have HR2 : Hid (∀ p ∈ qs.drop j, p.2.length ≤ 1048576) := fun p hp => HR.out p (List.mem_of_mem_drop hp)
      generalize qs.drop j = qs2 at *
      generalize fstA d B = B1 at *
      generalize sndA d j B = B2 at *
      have hk2 : (k + 1) + ((m - j) + 1) / 2 = N := by omega
      have hlt : m - j < m := by omega
      have hm2 : m - j ≤ n := by omega
      generalize m - j = m2 at *
      generalize d - j = d2 at *
      clear hj hd HP HR
      go_wp2_with fail
      refine (Q.out _ HB.out).mono ?_
      rintro e w3 ⟨A4, c4, rfl, _, hb⟩
      replace HO := hide (own_below HO.out hb)
      replace HB := hide (Bel.then HB.out hb)
      clear hb Q
      go_wp2_with (at_builtin; refine wpList_app rfl (.tmp 18) (.tmp 24) 36 rfl w.heap.size 29 i0 _ 1 24 Try.underlying36 hi0 hz0 hz1 hz2 rfl (by omega) u7 k xs rfl (own_below HO.out (Bel.one w3 (.cells #[.slice A4 j c4] 29))) _ (some ⟨w3.heap.size, 0, none⟩) 1 1 [.slice A4 j c4] rfl rfl (cells_lit w3 #[.slice A4 j c4] 29) (by intro u hu; rw [List.mem_singleton.1 hu]; rfl) (by unfold maxLen; omega) (by omega) (by have := HB.out.size; simp only [World.size_alloc]; omega) (by intro h; cases h) ?_; intro v1 w4 hown hgr _; have HO4 := hide hown; have HB4 := hide (own_grown (Bel.alloc HB.out (.cells #[.slice A4 j c4] 29)) hgr (by intro q hq; rcases HO.out.2 with ⟨hv, _⟩ | ⟨b, cap, cur, hv, h1, _⟩; (subst hv; cases hq); (rw [hv] at hq; injection hq with hq; subst hq; exact h1))); clear hown hgr HO HB)
      go_roundw
      case rel => exact ⟨B2, m2, d2, k + 1, qs2, xs ++ [.slice A4 j c4], rfl, hm2, hk2, HP2, HR2, HO4, HB4⟩
      case measure => simp [lenV]; omega
    · have h0i : ¬ (0 : Int) < m := by omega
      obtain rfl : k = N := by omega
      obtain ⟨X, cx, hv, _⟩ := own_form HO.out
      subst hv
      go_wp2_with fail
      go_ret
      exact ⟨⟨X, cx, rfl⟩, HB.out⟩
end Go.Proofs.Ytahdkfenpflahaa
