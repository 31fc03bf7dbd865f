/- The contract of clone.Rows. -/
import Derived.Test.YtahdkfenpflahaaCloneA
import Derived.Test.YtahdkfenpflahaaNest
namespace Go.Proofs.Ytahdkfenpflahaa
set_option linter.unusedVariables false
open Go.ChangeShapes Go.WideShapes Go.ChangeAt Go.RowKit

abbrev RowsAt := NestAt valCells 3
theorem row_info : (Try.prog.info? 23).map (fun i => (i.zero, i.size, i.bytes)) = some (some (.slice none 0 0), 1, 24) := by kernel_rfl
/-- A slice of slices in new memory. -/
def GivesNest {α : Type} (f : α → List Value) (k : Nat) (w : World) (rows : List (List α)) (e : Ending) (w' : World) : Prop := ∃ A c, e = .returned (.slice A rows.length c) ∧ NestAt f k w' w'.heap.size A rows.length c rows ∧ Below w.heap.size w w' ∧ FreshA w.heap.size A
/-- Slices that are done, and the rest nil. -/
def doneV (ds : List ListV) (n : Nat) : List Value := (ds.map fun l => .slice l.A l.n l.c) ++ List.replicate (n - ds.length) (.slice none 0 0)
theorem doneV_set (ds : List ListV) (n : Nat) (m : ListV) (h : ds.length < n) : (doneV ds n).set ds.length (.slice m.A m.n m.c) = doneV (ds ++ [m]) n := by
  unfold doneV
  obtain ⟨d, hd⟩ : ∃ d, n - ds.length = d + 1 := ⟨n - ds.length - 1, by omega⟩
  rw [hd, List.replicate_succ, List.set_append_right _ _ (by simp)]
  simp only [List.length_map, Nat.sub_self, List.set_cons_zero, List.map_append, List.map_cons, List.map_nil, List.append_assoc, List.length_append, List.length_cons, List.length_nil]
  rw [show n - (ds.length + (0 + 1)) = d by omega]
  rfl
/-- What the loop of Each holds. -/
structure EachR (w : World) (rows : List (List ValV)) (n : Nat) (wr : World) (ds : List ListV) : Prop where
  own : wr.ownsRow w.heap.size 23 1 (.slice (some ⟨w.heap.size, 0, none⟩) n n) n (doneV ds n)
  each : ∀ (i : Nat) m r, ds[i]? = some m → rows[i]? = some r → SlAt valCells 3 wr wr.heap.size m.A m.n m.c r
  fresh : ∀ m ∈ ds, FreshA (w.heap.size + 1) m.A
  below : Below w.heap.size w wr
theorem made_nil (n : Nat) : (madeCells (Value.slice none 0 0).cells (n * 1)).toList = doneV [] n := by
  unfold madeCells doneV
  rw [Nat.mul_one]
  apply List.ext_getElem
  · simp
  · intro i h1 h2
    simp [Value.cells, Nat.mod_one]
theorem own_lt {w : World} {base g n c size : Nat} {e : TypeId} {xs : List Value} (h : w.ownsRow base e size (.slice (some ⟨g, 0, none⟩) n c) n xs) : g < w.heap.size := by
  rcases h.2 with ⟨h', _⟩ | ⟨g', cap', cur, h', _, hg, _⟩
  · simp at h'
  · simp only [Value.slice.injEq, Option.some.injEq, Addr.mk.injEq, and_true, true_and] at h'
    obtain ⟨rfl, rfl⟩ := h'
    exact (Array.getElem?_eq_some_iff.1 hg).1
theorem doneV_len (ds : List ListV) (n : Nat) (h : ds.length ≤ n) : (doneV ds n).length = n := by simp [doneV]; omega
theorem doneV_full (ds : List ListV) (n : Nat) (h : ds.length = n) : doneV ds n = (ds.map listVal).flatten := by simp [doneV, h, listVal_flat]
/-- A new row that the call owns. -/
def GivesEach (w : World) (rows : List (List ValV)) (n : Nat) (e : Ending) (w' : World) : Prop := 0 < n → e = .returned (.slice (some ⟨w.heap.size, 0, none⟩) n n) ∧ ∃ ds, ds.length = n ∧ EachR w rows n w' ds
set_option maxRecDepth 100000 in
set_option maxHeartbeats 2000000 in
theorem each_c (A : Option Addr) (n c : Nat) (rows : List (List ValV)) (w : World) (h : RowsAt w w.heap.size A n c rows) (hn : n ≤ 1048576) (hr : ∀ r ∈ rows, r.length ≤ 1048576) :
    Calls Try.prog 39 #[.slice A n c, .func (.func 40) #[] #[]] w fun e w' => GivesNest valCells 3 w rows e w' ∧ GivesEach w rows n e w' := by
  obtain ⟨i0, hi0, hz0, hz1, hz2⟩ := info_parts row_info
  have hl := h.len
  by_cases h0 : n = 0
  · subst h0
    obtain rfl : rows = [] := List.eq_nil_of_length_eq_zero hl
    go_enter Try.func39, Try.ntmps39
    go_wp2
    go_ret
    exact ⟨⟨none, 0, rfl, NestAt.empty _ _ _ _, Below.refl _ _, fun ad e => by cases e⟩, fun h => absurd h (by omega)⟩
  · have H := hide h
    have HR := hide hr
    have HL := hide hl
    have hnz : ((n : Int) == 0) = false := by simp; omega
    have hnI : (n : Int) ≤ 1048576 := by omega
    clear h hr hl h0
    go_enter Try.func39, Try.ntmps39
    go_wp2_with (at_make; refine wpList_make_full _ rfl (.tmp 12) (.tmp 12) 29 rfl w.heap.size 23 i0 _ 1 Try.underlying29 hi0 hz0 hz1 .i64 .i64 n n n rfl rfl rfl rfl (by rw [hz2]; omega) (by unfold maxLen; omega) (Nat.le_refl _) ?_; intro w1 hown1 hg1)
    have hm : (madeCells (Value.slice none 0 0).cells (n * 1)).toList = doneV [] n := made_nil n
    rw [hm] at hown1
    have HO1 := hide hown1
    have HB1 := hide ((Below.refl w.heap.size w).grown hg1 (Nat.le_refl _) (fun k hk => by cases hk))
    clear hown1 hg1 hm
    go_loopw [16] (fun i wr => ∃ ds : List ListV, ds.length ≤ n ∧ i = .int .i64 ds.length ∧ Hid (EachR w rows n wr ds)) (fun i _ => n - (intOf i).toNat)
    case atStart => exact ⟨[], Nat.zero_le _, rfl, ⟨HO1.out, by simp, by simp, HB1.out⟩⟩
    case round =>
      obtain ⟨ds, hd, rfl, HE⟩ := hrel
      by_cases hlt : ds.length < n
      · obtain ⟨b, off, A1, n1, c1, r, rfl, hb, hrw, hcell, hrow⟩ := (H.out.below HE.out.below).one hlt
        have hr1 := HR.out r (List.mem_of_getElem? hrw)
        have Q := hide (row_c A1 n1 c1 r wr (hrow.more HE.out.below.size) (by have := hrow.len; omega))
        have hlen := hrow.len
        clear hrow
        generalize hK : ds.length = K at *
        go_wp2_with fail
        refine Q.out.mono ?_
        rintro e w2 ⟨X, cx, rfl, hX, hb2, hf2⟩
        have hown := own_below HE.out.own hb2
        have hcK := hown.cellAt K (by omega)
        rw [List.getElem?_eq_getElem (by rw [doneV_len _ _ (by omega)]; omega)] at hcK
        have hfK := hown.frozenAt K
        have hst := (hown.stored K (.slice X r.length cx)).1
        rw [← hK, doneV_set ds n ⟨X, r.length, cx⟩ (by omega)] at hst
        have HST := hide hst
        have HX := hide (SlAt.set hX (p := ⟨w.heap.size, K, none⟩) (hf2.mono (own_lt HE.out.own)) (.slice X r.length cx))
        have HB2 := hide (HE.out.below.trans (hb2.mono HE.out.below.size))
        have HE2 := hide (fun (i : Nat) m r' h1 h2 => ((HE.out.each i m r' h1 h2).kept hb2).set (p := ⟨w.heap.size, K, none⟩) (HE.out.fresh m (List.mem_of_getElem? h1)) (.slice X r.length cx))
        rw [hK] at HST
        clear hown hst hX
        go_wp2_with fail
        go_roundw
        case rel =>
          refine ⟨ds ++ [⟨X, r.length, cx⟩], by simp; omega, by simp [hK], ⟨by rw [← hlen]; exact HST.out, ?_, ?_, ?_⟩⟩
          · intro i m r' h1 h2
            rcases Nat.lt_trichotomy i K with hi | rfl | hi
            · rw [List.getElem?_append_left (by omega)] at h1
              have := HE2.out i m r' h1 h2
              rw [World.size_setCell, ← hlen]
              exact this
            · rw [← hK, List.getElem?_concat_length] at h1
              injection h1 with h1
              subst h1
              rw [hrw] at h2
              injection h2 with h2
              subst h2
              have := HX.out
              rw [World.size_setCell, ← hlen]
              exact this
            · rw [List.getElem?_eq_none (by simp; omega)] at h1
              cases h1
          · intro m hm
            rcases List.mem_append.1 hm with hm | hm
            · exact HE.out.fresh m hm
            · obtain rfl := List.mem_singleton.1 hm
              exact hf2.mono (own_lt HE.out.own)
          · exact Below.setCell HB2.out (p := ⟨w.heap.size, K, none⟩) (Nat.le_refl _) _
        case measure => simp [intOf]; omega
      · have hK : ds.length = n := by omega
        go_wp2_with fail
        go_ret
        have ho := HE.out.own
        rw [doneV_full ds n hK] at ho
        have hl := HL.out
        subst hK
        obtain ⟨A2, c2, e2, hN⟩ := nest_of_own (rows := rows) ho HL.out (HE.out.each)
        injection e2 with e1 e2 e3
        subst e1 e3
        refine ⟨⟨some ⟨w.heap.size, 0, none⟩, ds.length, ?_, ?_, HE.out.below, FreshA.new (Nat.le_refl _)⟩, fun _ => ⟨rfl, ds, rfl, HE.out⟩⟩
        · rw [hl]; rfl
        · rw [hl]; exact hN
end Go.Proofs.Ytahdkfenpflahaa
