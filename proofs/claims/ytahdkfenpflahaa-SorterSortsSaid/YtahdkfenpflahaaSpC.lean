/- The contracts of clone.Flat, Row, Each, Rows once more, and of sorter.Sort: whose the new memory is. -/
import Derived.Test.YtahdkfenpflahaaSpB
namespace Go.Proofs.Ytahdkfenpflahaa
set_option linter.unusedVariables false
open Go.ChangeShapes Go.WideShapes Go.ChangeAt Go.RowKit

/-- A row of values that is the call's own, given back. -/
def GivesR (w : World) (r : List ValV) (e : Ending) (w' : World) : Prop := ∃ X cx, e = .returned (.slice X r.length cx) ∧ OwnR w.heap.size w' (⟨X, r.length, cx⟩, r) ∧ Below w.heap.size w w'
set_option maxRecDepth 100000 in
set_option maxHeartbeats 1000000 in
theorem flatO_c (A : Option Addr) (n c : Nat) (r : List ValV) (w : World) (h : RowAt w w.heap.size A n c r) (hn : n ≤ 1048576) :
    Calls Try.prog 46 #[.slice A n c] w (GivesR w r) := by
  obtain ⟨i0, hi0, hz0, hz1, hz2⟩ := info_parts value_info
  have hl := h.len
  by_cases h0 : n = 0
  · subst h0
    obtain rfl : r = [] := List.eq_nil_of_length_eq_zero hl
    go_enter Try.func46, Try.ntmps46
    go_wp2
    go_ret
    exact ⟨none, 0, rfl, ⟨rfl, World.ownsRow_nil _ _ _ _⟩, Below.refl _ _⟩
  · obtain ⟨b, off, e, hb, hc⟩ := h.recs.2 (by rw [flat_len _ 3 h.recs.1, List.length_map, hl]; omega)
    subst e
    have hfl : (r.map valCells).flatten.length = n * 3 := by rw [flat_len _ 3 h.recs.1, List.length_map, hl]
    have HC := hide hc
    have H1 := hide (cells_one r)
    have HF := hide hfl
    have hnz : ((n : Int) == 0) = false := by simp; omega
    have hnI : (n : Int) ≤ 1048576 := by omega
    have HL := hide hl
    clear h hc hfl h0 hl
    go_enter Try.func46, Try.ntmps46
    go_wp2_with (first
      | (at_make; refine wpList_make_full _ rfl (.tmp 8) (.tmp 8) 23 rfl w.heap.size 44 i0 _ 3 Try.underlying23 hi0 hz0 hz1 .i64 .i64 n n n rfl rfl rfl rfl (by rw [hz2]; omega) (by unfold maxLen; omega) (Nat.le_refl _) ?_; intro w1 hown1 hg1
         have HO1 := hide hown1
         have HB1 := hide ((Below.refl w.heap.size w).grown hg1 (Nat.le_refl _) (fun k hk => by cases hk))
         clear hown1 hg1)
      | ((with_reducible refine wpList_copy_row rfl (.tmp 10) (.tmp 11) 23 23 rfl 44 3 Try.underlying23 (by rw [hi0]; simp [hz1]) w.heap.size w.heap.size n c ⟨b, off, none⟩ _ (r.map valCells).flatten rfl rfl HO1.out HF.out (fun j v hj => by rw [add_off]; exact (HB1.out.cell (p := ⟨b, off + j, none⟩) hb).trans (HC.out j v hj)) H1.out ?_); intro w2 hown2 hb2 hsz2
         have HO2 := hide hown2
         have HB2 := hide (HB1.out.trans hb2)
         clear hown2 hb2 hsz2))
    go_ret
    have hl2 := HL.out
    subst hl2
    exact ⟨_, _, rfl, ⟨rfl, HO2.out⟩, HB2.out⟩
theorem rowO_c (A : Option Addr) (n c : Nat) (r : List ValV) (w : World) (h : RowAt w w.heap.size A n c r) (hn : n ≤ 1048576) :
    Calls Try.prog 40 #[.slice A n c] w (GivesR w r) := by
  have Q := hide (flatO_c A n c r w h hn)
  clear h hn
  go_enter Try.func40, Try.ntmps40
  go_wp2_with fail
  refine Q.out.mono ?_
  rintro e w1 ⟨X, cx, rfl, hX, hb⟩
  have HX := hide hX
  clear hX
  go_wp2_with fail
  go_ret
  exact ⟨X, cx, rfl, HX.out, hb⟩
/-- What the loop of Each holds. -/
structure EachO (w wr : World) (rs : List (List ValV)) (n : Nat) (os : List HRow) : Prop where
  own : wr.ownsRow w.heap.size 23 1 (.slice (some ⟨w.heap.size, 0, none⟩) n n) n (doneV (os.map Prod.fst) n)
  rows : ∀ p ∈ os, OwnR w.heap.size wr p
  is : sndL os = rs.take os.length
  below : Below w.heap.size w wr
theorem EachO.kept {w wr w' : World} {rs : List (List ValV)} {n : Nat} {os : List HRow} (h : EachO w wr rs n os) (hb : Below wr.heap.size wr w') : EachO w w' rs n os :=
  ⟨own_below h.own hb, fun p hp => (h.rows p hp).kept hb, h.is, Bel.then h.below hb⟩
theorem EachO.store {w wr : World} {rs : List (List ValV)} {n : Nat} {os : List HRow} {m : ListV} {r : List ValV} (h : EachO w wr rs n os) (hn : os.length < n) (hr : rs[os.length]? = some r) (hp : OwnR w.heap.size wr (m, r)) :
    EachO w (wr.setCell ⟨w.heap.size, os.length, none⟩ (.slice m.A m.n m.c)) rs n (os ++ [(m, r)]) := by
  obtain ⟨h1, h2⟩ := h.own.stored os.length (.slice m.A m.n m.c)
  refine ⟨?_, fun q hq => ?_, ?_, own_grown h.below h2 fun k hk => by injection hk with hk; omega⟩
  · have := doneV_set (os.map Prod.fst) n m (by rw [List.length_map]; exact hn)
    rw [List.length_map] at this
    rw [this] at h1
    rw [List.map_append]
    exact h1
  · have hk : ∀ q, OwnR w.heap.size wr q → OwnR w.heap.size (wr.setCell ⟨w.heap.size, os.length, none⟩ (.slice m.A m.n m.c)) q := fun q hq => ⟨hq.1, hq.2.kept h2 (own_ne hq.2 h.own ne_RH)⟩
    rcases List.mem_append.1 hq with hq | hq
    · exact hk q (h.rows q hq)
    · rw [List.mem_singleton.1 hq]; exact hk _ hp
  · have hi := h.is
    unfold sndL at hi ⊢
    rw [List.map_append, hi, List.length_append]
    exact (take_at hr).symm
set_option maxRecDepth 100000 in
set_option maxHeartbeats 2000000 in
theorem eachO_c (A : Option Addr) (n c : Nat) (rows : List (List ValV)) (w : World) (h : RowsAt w w.heap.size A n c rows) (hn : n ≤ 1048576) (hr : ∀ r ∈ rows, r.length ≤ 1048576) :
    Calls Try.prog 39 #[.slice A n c, .func (.func 40) #[] #[]] w (GivesRs w n rows) := by
  obtain ⟨i0, hi0, hz0, hz1, hz2⟩ := info_parts row_info
  have hl := h.len
  by_cases h0 : n = 0
  · subst h0
    obtain rfl : rows = [] := List.eq_nil_of_length_eq_zero hl
    go_enter Try.func39, Try.ntmps39
    go_wp2
    go_ret
    exact ⟨none, 0, [], rfl, ⟨World.ownsRow_nil _ _ _ _, by simp⟩, rfl, Below.refl _ _⟩
  · have H := hide h
    have HR := hide hr
    have HL := hide hl
    have hnz : ((n : Int) == 0) = false := by simp; omega
    have hnI : (n : Int) ≤ 1048576 := by omega
    clear h hr hl h0
    go_enter Try.func39, Try.ntmps39
    go_wp2_with (at_make; refine wpList_make_full _ rfl (.tmp 12) (.tmp 12) 29 rfl w.heap.size 23 i0 _ 1 Try.underlying29 hi0 hz0 hz1 .i64 .i64 n n n rfl rfl rfl rfl (by rw [hz2]; omega) (by unfold maxLen; omega) (Nat.le_refl _) ?_; intro w1 hown1 hg1)
    have hm : (madeCells (Value.slice none 0 0).cells (n * 1)).toList = doneV [] n := made_nil n
    rw [hm] at hown1
    have HO1 := hide hown1
    have HB1 := hide ((Below.refl w.heap.size w).grown hg1 (Nat.le_refl _) (fun k hk => by cases hk))
    clear hown1 hg1 hm
    go_loopw [16] (fun i wr => ∃ (K : Nat) (os : List HRow), K ≤ n ∧ os.length = K ∧ i = .int .i64 K ∧ Hid (EachO w wr rows n os)) (fun i _ => n - (intOf i).toNat)
    case atStart => exact ⟨0, [], Nat.zero_le _, rfl, rfl, ⟨HO1.out, by simp, rfl, HB1.out⟩⟩
    case round =>
      obtain ⟨K, os, hd, hK, rfl, HE⟩ := hrel
      by_cases hlt : K < n
      · obtain ⟨b, off, A1, n1, c1, r, rfl, hb, hrw, hcell, hrow⟩ := (H.out.below HE.out.below).one hlt
        have hr1 := HR.out r (List.mem_of_getElem? hrw)
        have Q := hide (rowO_c A1 n1 c1 r wr (hrow.more HE.out.below.size) (by have := hrow.len; omega))
        have HS := hide (fun (W : World) (m : ListV) (he : EachO w W rows n os) (hp : OwnR w.heap.size W (m, r)) => he.store (by omega) (by rw [hK]; exact hrw) hp)
        rw [hK] at HS
        have HRW := hide hrw
        have HK := hide hK
        clear hrow hrw hK
        go_wp2_with fail
        refine Q.out.mono ?_
        rintro e w2 ⟨X, cx, rfl, hX, hb2⟩
        have HX := hide (hX.lower HE.out.below.size)
        replace HE := hide (HE.out.kept hb2)
        have hcK := HE.out.own.cellAt K (by omega)
        rw [List.getElem?_eq_getElem (by rw [doneV_len _ _ (by rw [List.length_map, HK.out]; omega)]; omega)] at hcK
        have hfK := HE.out.own.frozenAt K
        replace HE := hide (HS.out _ _ HE.out HX.out)
        clear hX hb2 Q HS HX
        go_wp2_with fail
        go_roundw
        case rel => exact ⟨K + 1, _, by omega, by rw [List.length_append, HK.out]; rfl, by go_num, HE⟩
        case measure => simp [intOf]; omega
      · obtain rfl : K = n := by omega
        have HR2 : Hid (OwnRs w.heap.size wr (.slice (some ⟨w.heap.size, 0, none⟩) K K) os) := by
          refine ⟨?_, HE.out.rows⟩
          unfold OwnH
          have := HE.out.own
          rw [doneV_full _ _ (by rw [List.length_map]; exact hK)] at this
          rw [hK]
          have e : (List.map listVal (os.map Prod.fst)).flatten = os.map hdV := by rw [listVal_flat, List.map_map]; rfl
          rw [e] at this
          exact this
        have HI2 : Hid (sndL os = rows) := by
          have := HE.out.is
          rw [List.take_of_length_le (by rw [hK, HL.out]; omega)] at this
          exact this
        have HB := hide HE.out.below
        clear HE
        go_wp2_with fail
        go_ret
        exact ⟨_, _, os, rfl, HR2.out, HI2.out, HB.out⟩
theorem rowsO_c (A : Option Addr) (n c : Nat) (rows : List (List ValV)) (w : World) (h : RowsAt w w.heap.size A n c rows) (hn : n ≤ 1048576) (hr : ∀ r ∈ rows, r.length ≤ 1048576) :
    Calls Try.prog 28 #[.slice A n c] w (GivesRs w n rows) := by
  have Q := hide (eachO_c A n c rows w h hn hr)
  clear h hn hr
  go_enter Try.func28, Try.ntmps28
  go_wp2_with fail
  refine Q.out.mono ?_
  rintro e w1 ⟨X, cx, os, rfl, hX, hs, hb⟩
  have HX := hide hX
  have HS := hide hs
  clear hX hs
  go_wp2_with fail
  go_ret
  exact ⟨X, cx, os, rfl, HX.out, HS.out, hb⟩
set_option maxRecDepth 100000 in
set_option maxHeartbeats 2000000 in
theorem SortO_c (A A3 : Option Addr) (n c n3 c3 : Nat) (ps : List HRow) (ks : List (Int × Bool)) (w : World) (hps : HsAt w A n c ps) (hk : KeysAt w w.heap.size A3 n3 c3 ks) (hn : n ≤ 1048576) (hr : ∀ r ∈ sndL ps, r.length ≤ 1048576) :
    Calls Try.prog 14 #[.slice A n c, .slice A3 n3 c3] w (GivesRs w n (sortR ks (sndL ps))) := by
  have hl := hps.sl.len
  have hl2 : (sndL ps).length = ps.length := List.length_map _
  have Q1 := hide (fun W => by_c A3 n3 c3 W)
  have Q2 := hide (fun (g : Nat) (W : World) (hW : Below w.heap.size w W) (hg : ByBox W g A3 n3 c3) => sortedN_c A3 n3 c3 g ks ps.length ps A n c W (Nat.le_refl _) (hps.kept hW) hg (hk.kept hW) hn)
  have Q3 := hide (fun (A4 : Option Addr) (c4 : Nat) (W : World) (hs : HsAt W A4 n c4 (sortN (ltK ks) ps.length ps)) => rowsO_c A4 n c4 (sortR ks (sndL ps)) W (by
    have := hs.nest
    rw [sortN_map (lt := ltK ks) (lu := fun r s => befB r s ks) Prod.snd (fun _ _ => rfl)] at this
    unfold sortR
    rw [hl2]
    exact this) hn (fun r hr' => hr r ((sortR_perm ks _).mem_iff.1 hr')))
  generalize sortR ks (sndL ps) = S at *
  generalize sortN (ltK ks) ps.length ps = P at *
  clear hps hk hr hl hl2
  go_enter Try.func14, Try.ntmps14
  go_wp2_with fail
  refine (Q1.out _).mono ?_
  rintro e w1 ⟨g, rfl, hg, hb⟩
  have HB := hide hb
  have HG := hide hg
  clear hb hg
  go_wp2_with fail
  refine (Q2.out _ _ HB.out HG.out).mono ?_
  rintro e w2 ⟨A4, c4, rfl, hs, hb⟩
  replace HB := hide (Bel.then HB.out hb)
  have HS := hide hs
  clear hb hs
  go_wp2_with fail
  refine (Q3.out _ _ _ HS.out).mono ?_
  rintro e w3 ⟨X, cx, os, rfl, hX, hs, hb⟩
  have HX := hide (show OwnRs w.heap.size w3 (.slice X n cx) os from hX.lower HB.out.size)
  have HI := hide hs
  replace HB := hide (Bel.then HB.out hb)
  clear hb hX hs
  go_wp2_with fail
  go_ret
  exact ⟨X, cx, os, rfl, HX.out, HI.out, HB.out⟩
end Go.Proofs.Ytahdkfenpflahaa
