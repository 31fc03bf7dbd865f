/- Lists of rows and runs that came in, of any size; the walk of SorterMerges. -/
import Derived.Test.YtahdkfenpflahaaSoYw
import Derived.Test.YtahdkfenpflahaaSoL
namespace Go.Proofs.Ytahdkfenpflahaa
set_option linter.unusedVariables false
open Go.ChangeShapes Go.WideShapes Go.ChangeAt Go.RowKit Go.Joins Go.Deep

section
variable {H : Type} {enc : TypeId × Value → H} {w : World} {base : Nat} {spare : Nat → Bool} {held : Bool}
theorem open_rowsC {n : Nat} {cs : List Value} {x : DataW H × List MemPlace} (h : DataW.trod enc Try.prog w base spare held n 29 cs = some x) : ∃ A N C ps, cs = [.slice A N C] ∧ HsAt w A N C ps ∧ ∀ p ∈ ps, StrsOk p.2 := by
  obtain ⟨A, N, C, l, e, h1, h2, h3, h4, h5, h6, h7⟩ := open_elems (α := HRow) hdC (Good := fun p => RowAt w w.heap.size p.1.A p.1.n p.1.c p.2 ∧ StrsOk p.2) Try.underlying29 (k := 1) (by kernel_rfl) (by omega) Rows.uptoBulk bulk_el bulk_le (M := Rows.uptoBulk x.1) (Nat.le_refl _) (fun n vs y hl hy _ => by
    obtain ⟨A, N, C, l, e, h1, h2⟩ := open_rowC hy
    exact ⟨(⟨A, N, C⟩, l), e, h1, h2⟩) h
  exact ⟨A, N, C, l, e, ⟨⟨h4, h1, h2, h3, h6⟩, fun p hp => (h7 p hp).1⟩, fun p hp => (h7 p hp).2⟩
theorem open_rowsT {v : Value} {d : DataW H} {p : List MemPlace} (hok : Value.okWide Try.prog w .any base 29 v) (h : DataW.Trod enc Try.prog w 0 (fun _ => true) true 29 v d p) : ∃ A N C ps, v = .slice A N C ∧ HsAt w A N C ps ∧ ∀ p ∈ ps, StrsOk p.2 := by
  obtain ⟨n, h0⟩ := h
  obtain ⟨A, N, C, l, e, h1, h2⟩ := open_rowsC h0
  obtain ⟨a0, len0, cap0, rfl⟩ := okWide_slice Try.underlying29 hok
  simp [Value.cells] at e
  obtain ⟨rfl, rfl, rfl⟩ := e
  exact ⟨_, _, _, l, rfl, h1, h2⟩
theorem open_runsT {v : Value} {d : DataW H} {p : List MemPlace} (hok : Value.okWide Try.prog w .any base 36 v) (h : DataW.Trod enc Try.prog w 0 (fun _ => true) true 36 v d p) : ∃ A N C gs, v = .slice A N C ∧ GsAt w A N C gs ∧ ∀ g ∈ gs, ∀ p ∈ g.2, StrsOk p.2 := by
  obtain ⟨n, h0⟩ := h
  obtain ⟨A, N, C, l, e, h1, h2, h3, h4, h5, h6, h7⟩ := open_elems (α := GRun) gdC (Good := fun g => HsAt w g.1.A g.1.n g.1.c g.2 ∧ ∀ p ∈ g.2, StrsOk p.2) Try.underlying36 (k := 1) (by kernel_rfl) (by omega) Rows.uptoBulk bulk_el bulk_le (M := Rows.uptoBulk d) (Nat.le_refl _) (fun n vs y hl hy _ => by
    obtain ⟨A, N, C, l, e, h1, h2⟩ := open_rowsC hy
    exact ⟨(⟨A, N, C⟩, l), e, h1, h2⟩) h0
  obtain ⟨a0, len0, cap0, rfl⟩ := okWide_slice Try.underlying36 hok
  simp [Value.cells] at e
  obtain ⟨rfl, rfl, rfl⟩ := e
  exact ⟨_, _, _, l, rfl, ⟨⟨h4, h1, h2, h3, h6⟩, fun p hp => (h7 p hp).1⟩, fun p hp => (h7 p hp).2⟩
end
theorem mergeN_mem {α : Type} {lt : α → α → Bool} {r : α} : ∀ (f : Nat) (L : List (List α)), r ∈ mergeN lt f L → ∃ l ∈ L, r ∈ l
  | 0, L, h => by rw [mergeN] at h; cases h
  | f + 1, L, h => by
    rw [mergeN] at h
    by_cases h0 : L.length = 0
    · rw [if_pos h0] at h; cases h
    rw [if_neg h0] at h
    by_cases h1 : L.length = 1
    · rw [if_pos h1] at h
      exact List.mem_flatten.1 h
    rw [if_neg h1] at h
    rcases List.mem_append.1 ((mergeL_perm lt _ _).mem_iff.1 h) with h | h
    · obtain ⟨l, hl, hr⟩ := mergeN_mem f _ h
      exact ⟨l, List.mem_of_mem_take hl, hr⟩
    · obtain ⟨l, hl, hr⟩ := mergeN_mem f _ h
      exact ⟨l, List.mem_of_mem_drop hl, hr⟩
theorem sumL_add (gs : List GRun) (g : GRun) : sumL (rowsG (gs ++ [g])) = sumL (rowsG gs) + g.2.length := by simp [sumL, rowsG]
theorem rowsG_mem {gs : List GRun} {l : List (List ValV)} {r : List ValV} (hl : l ∈ rowsG gs) (hr : r ∈ l) : ∃ g ∈ gs, ∃ p ∈ g.2, p.2 = r := by
  unfold rowsG at hl
  obtain ⟨g, hg, rfl⟩ := List.mem_map.1 hl
  obtain ⟨p, hp, rfl⟩ := List.mem_map.1 hr
  exact ⟨g, hg, p, hp, rfl⟩
set_option maxRecDepth 100000 in
set_option maxHeartbeats 4000000 in
theorem sorterMerges_w (A A3 : Option Addr) (n c n3 c3 : Nat) (gs : List GRun) (ks : List (Int × Bool)) (w : World) (h : GsAt w A n c gs) (hk : KeysAt w w.heap.size A3 n3 c3 ks) (hs : ∀ g ∈ gs, ∀ p ∈ g.2, StrsOk p.2) :
    Calls Try.prog 7 #[.slice A n c, .slice A3 n3 c3] w fun e w' => e = .returned (.bool true) ∧ Below w.heap.size w w' := by
  have HG := hide h
  have HK := hide hk
  have HS := hide hs
  have hl := h.sl.len
  have QA := hide (fun W => awake_c W)
  have HB0 := hide (Below.refl w.heap.size w)
  clear h hk hs
  go_enter Try.func7, Try.ntmps7
  by_cases g1 : 20 < n
  · have g1i : (20 : Int) < n := by omega
    go_wp2_with fail
    refine (QA.out _).mono ?_
    rintro e w1 ⟨rfl, hb⟩
    go_wp2_with fail
    go_ret
    exact ⟨rfl, hb⟩
  have g1i : ¬ (20 : Int) < n := by omega
  go_wp2_with fail
  go_loopw [5, 6] (fun nv iv wr => ∃ i m : Nat, i ≤ n ∧ m ≤ 60 * i ∧ iv = .int .i64 i ∧ nv = .int .i64 m ∧ Hid (sumL (rowsG (gs.take i)) = m) ∧ Hid (∀ g ∈ gs.take i, ∀ p ∈ g.2, AllK ks p.2 ∧ p.2.length ≤ 40) ∧ Hid (Below w.heap.size w wr)) (fun _ iv _ => n - (intOf iv).toNat)
  case atStart => exact ⟨0, 0, Nat.zero_le _, Nat.zero_le _, rfl, rfl, rfl, (by intro g hg; simp at hg), HB0⟩
  case round =>
    clear HB0
    obtain ⟨i, m, hin, hm, rfl, rfl, HM, HA, HB⟩ := hrel
    by_cases hlt : i < n
    · have hlti : (i : Int) < n := by omega
      have hwi : IntKind.i64.wrap ((i : Int) + 1) = (i : Int) + 1 := IntWalk.i64_in _ (by omega)
      obtain ⟨b, off, p, rfl, hp, Ha⟩ := (HG.out.kept HB.out).head hlt
      have hps := HG.out.each p (List.mem_of_getElem? hp)
      have hpl : p.2.length = p.1.n := hps.sl.len
      have QS := hide (fun (W : World) (hW : Below w.heap.size w W) => small_c p.1.A p.1.n p.1.c p.2 W (hps.kept hW))
      have QL := hide (fun (W : World) (hW : Below w.heap.size w W) => All_c p.1.A A3 p.1.n p.1.c n3 c3 p.2 ks W (hps.kept hW) (HK.out.kept hW))
      have HN : Hid (sumL (rowsG (gs.take (i + 1))) = m + p.1.n) := by
        show _ = _
        rw [take_at hp, sumL_add, HM.out, hpl]
      have HA2 : Hid ((∀ q ∈ p.2, AllK ks q.2) → (∀ q ∈ p.2, q.2.length ≤ 40) → ∀ g ∈ gs.take (i + 1), ∀ q ∈ g.2, AllK ks q.2 ∧ q.2.length ≤ 40) := fun h1 h2 g hg q hq => by
        rw [take_at hp] at hg
        rcases List.mem_append.1 hg with hg | hg
        · exact HA.out g hg q hq
        · rw [List.mem_singleton.1 hg] at hq
          exact ⟨h1 q hq, h2 q hq⟩
      clear HM HA hps hp hpl
      generalize p.1.A = pA at *
      generalize p.1.n = pn at *
      generalize p.1.c = pc at *
      generalize p.2 = ps at *
      obtain ⟨hb0, a_0⟩ := Ha
      go_wp2_with fail
      refine (QS.out _ HB.out).mono ?_
      rintro e w1 ⟨q, rfl, hq, hb⟩
      have a_1 := kept hb a_0
      replace HB := hide (Bel.then HB.out hb)
      clear QS a_0 hb hb0
      cases q with
      | false =>
        clear hq
        go_wp2_with fail
        refine (QA.out _).mono ?_
        rintro e w2 ⟨rfl, hb⟩
        replace HB := hide (Bel.then HB.out hb)
        clear hb
        go_wp2_with fail
        go_ret
        exact ⟨rfl, HB.out⟩
      | true =>
        obtain ⟨hpn, h40⟩ := hq rfl
        have H40 := hide h40
        clear hq h40
        go_wp2_with fail
        refine (QL.out _ HB.out).mono ?_
        rintro e w2 ⟨q, rfl, hq, hb⟩
        have a_2 := kept hb a_1
        replace HB := hide (Bel.then HB.out hb)
        clear QL a_1 hb
        cases q with
        | false =>
          clear hq
          go_wp2_with fail
          refine (QA.out _).mono ?_
          rintro e w3 ⟨rfl, hb⟩
          replace HB := hide (Bel.then HB.out hb)
          clear hb
          go_wp2_with fail
          go_ret
          exact ⟨rfl, HB.out⟩
        | true =>
          have HX := hide (HA2.out (hq rfl) H40.out)
          have hwm : IntKind.i64.wrap ((m : Int) + (pn : Int)) = ((m + pn : Nat) : Int) := by rw [IntWalk.i64_in _ (by omega)]; omega
          clear hq H40 HA2
          go_wp2_with fail
          go_roundw
          case rel => exact ⟨i + 1, m + pn, by omega, by omega, by go_num, rfl, HN, HX, HB⟩
          case measure => simp [intOf]; omega
    · have hlti : ¬ (i : Int) < n := by omega
      obtain rfl : i = n := by omega
      by_cases g2 : 60 < m
      · have g2i : (60 : Int) < m := by omega
        go_wp2_with fail
        refine (QA.out _).mono ?_
        rintro e w3 ⟨rfl, hb⟩
        replace HB := hide (Bel.then HB.out hb)
        clear hb
        go_wp2_with fail
        go_ret
        exact ⟨rfl, HB.out⟩
      have g2i : ¬ (60 : Int) < m := by omega
      have ht : gs.take i = gs := List.take_of_length_le (by omega)
      have HM2 : Hid (sumL (rowsG gs) = m) := by show _ = _; rw [← HM.out, ht]
      have HGd : Hid (∀ l ∈ rowsG gs, ∀ r ∈ l, GoodR ks r) := fun l hl r hr => by
        obtain ⟨g, hg, p, hp, rfl⟩ := rowsG_mem hl hr
        have h1 := HA.out g (by rw [ht]; exact hg) p hp
        exact ⟨h1.1, HS.out g hg p hp, by have := h1.2; omega⟩
      have hgm : ∀ r ∈ mergeR ks (rowsG gs), GoodR ks r := fun r hr => by
        obtain ⟨l, hl, hr⟩ := mergeN_mem _ _ hr
        exact HGd.out l hl r hr
      have HGm := hide hgm
      have Q1 := hide (fun (W : World) (hW : Below w.heap.size w W) => Merge_c A A3 i c n3 c3 gs ks W (HG.out.kept hW) (HK.out.kept hW) (by omega) (by rw [HM2.out]; omega) (fun r hr => (HGm.out r hr).len))
      have Q2 := hide (fun (W : World) (hW : Below w.heap.size w W) => rmerge_c A A3 i c n3 c3 gs ks W (HG.out.kept hW) (HK.out.kept hW) (by omega) (by rw [HM2.out]; omega) HGd.out)
      rw [HM2.out] at Q1
      generalize mergeR ks (rowsG gs) = M at *
      clear HM HA ht HGd HS HG HK hgm HM2
      go_wp2_with fail
      refine (QA.out _).mono ?_
      rintro e w1 ⟨rfl, hb⟩
      replace HB := hide (Bel.then HB.out hb)
      clear hb
      go_wp2_with fail
      refine (Q1.out _ HB.out).mono ?_
      rintro e w2 ⟨A4, c4, rfl, hX, hb⟩
      replace HB := hide (Bel.then HB.out hb)
      obtain ⟨ps, hps, hsnd⟩ := HsAt.of_nest hX
      have HP := hide hps
      have HE := hide hsnd
      clear hb hX hps hsnd
      go_wp2_with fail
      refine (Q2.out _ HB.out).mono ?_
      rintro e w3 ⟨X, cx, os, rfl, ho, he, hb⟩
      replace HB := hide (Bel.then HB.out hb)
      replace HP := hide (HP.out.kept hb)
      have HO := hide ho
      have HF := hide he
      clear hb ho he
      have QT := hide (List_c A4 X m c4 os.length cx ps os w3 HP.out HO.out (fun p hp => (HGm.out p.2 (by rw [← HE.out]; exact List.mem_map.2 ⟨p, hp, rfl⟩)).strs) (fun p hp => (HGm.out p.2 (by rw [← HF.out]; exact List.mem_map.2 ⟨p, hp, rfl⟩)).strs))
      go_wp2_with fail
      refine QT.out.mono ?_
      rintro e w4 ⟨q, rfl, hq, hb⟩
      obtain rfl : q = true := hq.2 (HE.out.trans HF.out.symm)
      replace HB := hide (Bel.then HB.out hb)
      clear hb hq QT
      go_wp2_with fail
      go_ret
      exact ⟨rfl, HB.out⟩
end Go.Proofs.Ytahdkfenpflahaa
