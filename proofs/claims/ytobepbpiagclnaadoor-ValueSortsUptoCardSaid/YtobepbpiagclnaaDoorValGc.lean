/- What the texts behind this one use: CloneA, CloneB, SortA, RowM, RowP, BagA, Mk, AwakeV, OpenV, SaysW, ValO. -/
import Derived.Test.YtobepbpiagclnaaDoorValGb
import Derived.Test.YtobepbpiagclnaaDoorValGa
import Derived.BigRegion
import Derived.Handy
import Derived.OpenShut
import Derived.Shelf.Vars
import Derived.LaidMore
import Derived.Stop.LaidErr
namespace Go.Proofs.YtobepbpiagclnaaDoor
set_option linter.unusedVariables false
open Go.ChangeShapes Go.WideShapes Go.ChangeAt Go.RowKit

/-- A slice in new memory. -/
def GivesSl {α : Type} (f : α → List Value) (k : Nat) (w : World) (l : List α) (e : Ending) (w' : World) : Prop := ∃ A c, e = .returned (.slice A l.length c) ∧ SlAt f k w' w'.heap.size A l.length c l ∧ Below w.heap.size w w' ∧ FreshA w.heap.size A
theorem value_info : (Tryd.prog.info? 33).map (fun i => (i.zero, i.size, i.bytes)) = some (some (.agg #[.int .i64 0, .int .i64 0, .string .empty]), 3, 32) := by kernel_rfl
theorem valCells_len (v : ValV) : (valCells v).length = 3 := rfl
set_option maxRecDepth 100000 in
set_option maxHeartbeats 1000000 in
theorem flat_c (A : Option Addr) (n c : Nat) (r : List ValV) (w : World) (h : RowAt w w.heap.size A n c r) (hn : n ≤ 1048576) :
    Calls Tryd.prog 37 #[.slice A n c] w fun e w' => GivesSl valCells 3 w r e w' := by
  obtain ⟨i0, hi0, hz0, hz1, hz2⟩ := info_parts value_info
  have hl := h.len
  by_cases h0 : n = 0
  · subst h0
    obtain rfl : r = [] := List.eq_nil_of_length_eq_zero hl
    go_enter Tryd.func37, Tryd.ntmps37
    go_wp2
    go_ret
    exact ⟨none, 0, rfl, SlAt.empty _ _ _ _, Below.refl _ _, fun ad e => by cases e⟩
  · obtain ⟨b, off, e, hb, hc⟩ := h.recs.2 (by rw [flat_len _ 3 h.recs.1, List.length_map, hl]; omega)
    subst e
    have hfl : (r.map valCells).flatten.length = n * 3 := by rw [flat_len _ 3 h.recs.1, List.length_map, hl]
    have h1 : ∀ v ∈ (r.map valCells).flatten, v.oneCell' = true := by
      intro v hv
      obtain ⟨xs, hx, hvx⟩ := List.mem_flatten.1 hv
      obtain ⟨a, _, rfl⟩ := List.mem_map.1 hx
      simp [valCells] at hvx
      rcases hvx with rfl | rfl | rfl <;> rfl
    have HC := hide hc
    have H1 := hide h1
    have HF := hide hfl
    have hnz : ((n : Int) == 0) = false := by simp; omega
    have hnI : (n : Int) ≤ 1048576 := by omega
    have HL := hide hl
    clear h hc h1 hfl h0 hl
    go_enter Tryd.func37, Tryd.ntmps37
    go_wp2_with (first
      | (at_make; refine wpList_make_full _ rfl (.tmp 8) (.tmp 8) 26 rfl w.heap.size 33 i0 _ 3 Tryd.underlying26 hi0 hz0 hz1 .i64 .i64 n n n rfl rfl rfl rfl (by rw [hz2]; omega) (by unfold maxLen; omega) (Nat.le_refl _) ?_; intro w1 hown1 hg1
         have HO1 := hide hown1
         have HB1 := hide ((Below.refl w.heap.size w).grown hg1 (Nat.le_refl _) (fun k hk => by cases hk))
         clear hown1 hg1)
      | ((with_reducible refine wpList_copy_row rfl (.tmp 10) (.tmp 11) 26 26 rfl 33 3 Tryd.underlying26 (by rw [hi0]; simp [hz1]) w.heap.size w.heap.size n c ⟨b, off, none⟩ _ (r.map valCells).flatten rfl rfl HO1.out HF.out (fun j v hj => by rw [add_off]; exact (HB1.out.cell (p := ⟨b, off + j, none⟩) hb).trans (HC.out j v hj)) H1.out ?_); intro w2 hown2 hb2 hsz2
         have HO2 := hide hown2
         have HB2 := hide (HB1.out.trans hb2)
         clear hown2 hb2 hsz2))
    go_ret
    have hl2 := HL.out
    subst hl2
    obtain ⟨A', c', e, hS⟩ := sl_of_own HO2.out valCells_len
    injection e with e1 e2 e3
    subst e1 e3
    exact ⟨_, _, rfl, hS, HB2.out, FreshA.new (Nat.le_refl _)⟩
theorem row_c (A : Option Addr) (n c : Nat) (r : List ValV) (w : World) (h : RowAt w w.heap.size A n c r) (hn : n ≤ 1048576) :
    Calls Tryd.prog 27 #[.slice A n c] w fun e w' => GivesSl valCells 3 w r e w' := by
  have Q := hide (flat_c A n c r w h hn)
  clear h hn
  go_enter Tryd.func27, Tryd.ntmps27
  go_wp2_with fail
  refine Q.out.mono ?_
  rintro e w1 ⟨X, cx, rfl, hX, hb, hf⟩
  go_wp2_with fail
  go_ret
  exact ⟨X, cx, rfl, hX, hb, hf⟩
end Go.Proofs.YtobepbpiagclnaaDoor
namespace Go.Proofs.YtobepbpiagclnaaDoor
set_option linter.unusedVariables false
open Go.ChangeShapes Go.WideShapes Go.ChangeAt Go.RowKit

abbrev RowsAt := NestAt valCells 3
theorem row_info : (Tryd.prog.info? 26).map (fun i => (i.zero, i.size, i.bytes)) = some (some (.slice none 0 0), 1, 24) := by kernel_rfl
/-- A slice of slices in new memory. -/
def GivesNest {α : Type} (f : α → List Value) (k : Nat) (w : World) (rows : List (List α)) (e : Ending) (w' : World) : Prop := ∃ A c, e = .returned (.slice A rows.length c) ∧ NestAt f k w' w'.heap.size A rows.length c rows ∧ Below w.heap.size w w' ∧ FreshA w.heap.size A
/-- Slices that are done, and the rest nil. -/
def doneV (ds : List ListV) (n : Nat) : List Value := (ds.map fun l => .slice l.A l.n l.c) ++ List.replicate (n - ds.length) (.slice none 0 0)
theorem doneV_set (ds : List ListV) (n : Nat) (m : ListV) (h : ds.length < n) : (doneV ds n).set ds.length (.slice m.A m.n m.c) = doneV (ds ++ [m]) n := by
  unfold doneV
  obtain ⟨d, hd⟩ : ∃ d, n - ds.length = d + 1 := ⟨n - ds.length - 1, by omega⟩
  rw [hd, List.replicate_succ, List.set_append_right _ _ (by simp)]
  simp only [List.length_map, Nat.sub_self, List.set_cons_zero, List.map_append, List.map_cons, List.map_nil, List.append_assoc, List.length_append, List.length_cons, List.length_nil]
  rw [show n - (ds.length + (0 + 1)) = d by omega]
  rfl
/-- What the loop of Each holds. -/
structure EachR (w : World) (rows : List (List ValV)) (n : Nat) (wr : World) (ds : List ListV) : Prop where
  own : wr.ownsRow w.heap.size 26 1 (.slice (some ⟨w.heap.size, 0, none⟩) n n) n (doneV ds n)
  each : ∀ (i : Nat) m r, ds[i]? = some m → rows[i]? = some r → SlAt valCells 3 wr wr.heap.size m.A m.n m.c r
  fresh : ∀ m ∈ ds, FreshA (w.heap.size + 1) m.A
  below : Below w.heap.size w wr
theorem made_nil (n : Nat) : (madeCells (Value.slice none 0 0).cells (n * 1)).toList = doneV [] n := by
  unfold madeCells doneV
  rw [Nat.mul_one]
  apply List.ext_getElem
  · simp
  · intro i h1 h2
    simp [Value.cells, Nat.mod_one]
theorem own_lt {w : World} {base g n c size : Nat} {e : TypeId} {xs : List Value} (h : w.ownsRow base e size (.slice (some ⟨g, 0, none⟩) n c) n xs) : g < w.heap.size := by
  rcases h.2 with ⟨h', _⟩ | ⟨g', cap', cur, h', _, hg, _⟩
  · simp at h'
  · simp only [Value.slice.injEq, Option.some.injEq, Addr.mk.injEq, and_true, true_and] at h'
    obtain ⟨rfl, rfl⟩ := h'
    exact (Array.getElem?_eq_some_iff.1 hg).1
theorem doneV_len (ds : List ListV) (n : Nat) (h : ds.length ≤ n) : (doneV ds n).length = n := by simp [doneV]; omega
theorem doneV_full (ds : List ListV) (n : Nat) (h : ds.length = n) : doneV ds n = (ds.map listVal).flatten := by simp [doneV, h, listVal_flat]
/-- A new row that the call owns. -/
def GivesEach (w : World) (rows : List (List ValV)) (n : Nat) (e : Ending) (w' : World) : Prop := 0 < n → e = .returned (.slice (some ⟨w.heap.size, 0, none⟩) n n) ∧ ∃ ds, ds.length = n ∧ EachR w rows n w' ds
set_option maxRecDepth 100000 in
set_option maxHeartbeats 2000000 in
theorem each_c (A : Option Addr) (n c : Nat) (rows : List (List ValV)) (w : World) (h : RowsAt w w.heap.size A n c rows) (hn : n ≤ 1048576) (hr : ∀ r ∈ rows, r.length ≤ 1048576) :
    Calls Tryd.prog 26 #[.slice A n c, .func (.func 27) #[] #[]] w fun e w' => GivesNest valCells 3 w rows e w' ∧ GivesEach w rows n e w' := by
  obtain ⟨i0, hi0, hz0, hz1, hz2⟩ := info_parts row_info
  have hl := h.len
  by_cases h0 : n = 0
  · subst h0
    obtain rfl : rows = [] := List.eq_nil_of_length_eq_zero hl
    go_enter Tryd.func26, Tryd.ntmps26
    go_wp2
    go_ret
    exact ⟨⟨none, 0, rfl, NestAt.empty _ _ _ _, Below.refl _ _, fun ad e => by cases e⟩, fun h => absurd h (by omega)⟩
  · have H := hide h
    have HR := hide hr
    have HL := hide hl
    have hnz : ((n : Int) == 0) = false := by simp; omega
    have hnI : (n : Int) ≤ 1048576 := by omega
    clear h hr hl h0
    go_enter Tryd.func26, Tryd.ntmps26
    go_wp2_with (at_make; refine wpList_make_full _ rfl (.tmp 12) (.tmp 12) 22 rfl w.heap.size 26 i0 _ 1 Tryd.underlying22 hi0 hz0 hz1 .i64 .i64 n n n rfl rfl rfl rfl (by rw [hz2]; omega) (by unfold maxLen; omega) (Nat.le_refl _) ?_; intro w1 hown1 hg1)
    have hm : (madeCells (Value.slice none 0 0).cells (n * 1)).toList = doneV [] n := made_nil n
    rw [hm] at hown1
    have HO1 := hide hown1
    have HB1 := hide ((Below.refl w.heap.size w).grown hg1 (Nat.le_refl _) (fun k hk => by cases hk))
    clear hown1 hg1 hm
    go_loopw [16] (fun i wr => ∃ ds : List ListV, ds.length ≤ n ∧ i = .int .i64 ds.length ∧ Hid (EachR w rows n wr ds)) (fun i _ => n - (intOf i).toNat)
    case atStart => exact ⟨[], Nat.zero_le _, rfl, ⟨HO1.out, by simp, by simp, HB1.out⟩⟩
    case round =>
      obtain ⟨ds, hd, rfl, HE⟩ := hrel
      by_cases hlt : ds.length < n
      · obtain ⟨b, off, A1, n1, c1, r, rfl, hb, hrw, hcell, hrow⟩ := (H.out.below HE.out.below).one hlt
        have hr1 := HR.out r (List.mem_of_getElem? hrw)
        have Q := hide (row_c A1 n1 c1 r wr (hrow.more HE.out.below.size) (by have := hrow.len; omega))
        have hlen := hrow.len
        clear hrow
        generalize hK : ds.length = K at *
        go_wp2_with fail
        refine Q.out.mono ?_
        rintro e w2 ⟨X, cx, rfl, hX, hb2, hf2⟩
        have hown := own_below HE.out.own hb2
        have hcK := hown.cellAt K (by omega)
        rw [List.getElem?_eq_getElem (by rw [doneV_len _ _ (by omega)]; omega)] at hcK
        have hfK := hown.frozenAt K
        have hst := (hown.stored K (.slice X r.length cx)).1
        rw [← hK, doneV_set ds n ⟨X, r.length, cx⟩ (by omega)] at hst
        have HST := hide hst
        have HX := hide (SlAt.set hX (p := ⟨w.heap.size, K, none⟩) (hf2.mono (own_lt HE.out.own)) (.slice X r.length cx))
        have HB2 := hide (HE.out.below.trans (hb2.mono HE.out.below.size))
        have HE2 := hide (fun (i : Nat) m r' h1 h2 => ((HE.out.each i m r' h1 h2).kept hb2).set (p := ⟨w.heap.size, K, none⟩) (HE.out.fresh m (List.mem_of_getElem? h1)) (.slice X r.length cx))
        rw [hK] at HST
        clear hown hst hX
        go_wp2_with fail
        go_roundw
        case rel =>
          refine ⟨ds ++ [⟨X, r.length, cx⟩], by simp; omega, by simp [hK], ⟨by rw [← hlen]; exact HST.out, ?_, ?_, ?_⟩⟩
          · intro i m r' h1 h2
            rcases Nat.lt_trichotomy i K with hi | rfl | hi
            · rw [List.getElem?_append_left (by omega)] at h1
              have := HE2.out i m r' h1 h2
              rw [World.size_setCell, ← hlen]
              exact this
            · rw [← hK, List.getElem?_concat_length] at h1
              injection h1 with h1
              subst h1
              rw [hrw] at h2
              injection h2 with h2
              subst h2
              have := HX.out
              rw [World.size_setCell, ← hlen]
              exact this
            · rw [List.getElem?_eq_none (by simp; omega)] at h1
              cases h1
          · intro m hm
            rcases List.mem_append.1 hm with hm | hm
            · exact HE.out.fresh m hm
            · obtain rfl := List.mem_singleton.1 hm
              exact hf2.mono (own_lt HE.out.own)
          · exact Below.setCell HB2.out (p := ⟨w.heap.size, K, none⟩) (Nat.le_refl _) _
        case measure => simp [intOf]; omega
      · have hK : ds.length = n := by omega
        go_wp2_with fail
        go_ret
        have ho := HE.out.own
        rw [doneV_full ds n hK] at ho
        have hl := HL.out
        subst hK
        obtain ⟨A2, c2, e2, hN⟩ := nest_of_own (rows := rows) ho HL.out (HE.out.each)
        injection e2 with e1 e2 e3
        subst e1 e3
        refine ⟨⟨some ⟨w.heap.size, 0, none⟩, ds.length, ?_, ?_, HE.out.below, FreshA.new (Nat.le_refl _)⟩, fun _ => ⟨rfl, ds, rfl, HE.out⟩⟩
        · rw [hl]; rfl
        · rw [hl]; exact hN
end Go.Proofs.YtobepbpiagclnaaDoor
namespace Go.Proofs.YtobepbpiagclnaaDoor
set_option linter.unusedVariables false
open Go.ChangeShapes Go.WideShapes Go.ChangeAt Go.RowKit

/-- Two rows in a slice of the call's own. -/
structure TwoAt (base : Nat) (w : World) (g : Nat) (m0 m1 : ListV) (r0 r1 : List ValV) : Prop where
  own : w.ownsRow base 26 1 (.slice (some ⟨g, 0, none⟩) 2 2) 2 [.slice m0.A m0.n m0.c, .slice m1.A m1.n m1.c]
  a0 : SlAt valCells 3 w w.heap.size m0.A m0.n m0.c r0
  a1 : SlAt valCells 3 w w.heap.size m1.A m1.n m1.c r1
  f0 : FreshA (g + 1) m0.A
  f1 : FreshA (g + 1) m1.A
theorem TwoAt.kept {base g : Nat} {w w' : World} {m0 m1 : ListV} {r0 r1 : List ValV} (h : TwoAt base w g m0 m1 r0 r1) (hb : Below w.heap.size w w') : TwoAt base w' g m0 m1 r0 r1 :=
  ⟨own_below h.own hb, h.a0.kept hb, h.a1.kept hb, h.f0, h.f1⟩
theorem TwoAt.cells {base g : Nat} {w : World} {m0 m1 : ListV} {r0 r1 : List ValV} (h : TwoAt base w g m0 m1 r0 r1) :
    w.cell? ⟨g, 0, none⟩ = some (.slice m0.A m0.n m0.c) ∧ w.cell? ⟨g, 1, none⟩ = some (.slice m1.A m1.n m1.c) ∧ w.frozen? ⟨g, 0, none⟩ = false ∧ w.frozen? ⟨g, 1, none⟩ = false :=
  ⟨h.own.cellAt 0 (by omega), h.own.cellAt 1 (by omega), h.own.frozenAt 0, h.own.frozenAt 1⟩
theorem TwoAt.swap {base g : Nat} {w : World} {m0 m1 : ListV} {r0 r1 : List ValV} (h : TwoAt base w g m0 m1 r0 r1) :
    TwoAt base ((w.setCell ⟨g, 1, none⟩ (.slice m0.A m0.n m0.c)).setCell ⟨g, 0, none⟩ (.slice m1.A m1.n m1.c)) g m1 m0 r1 r0 := by
  refine ⟨(((h.own.stored 1 (.slice m0.A m0.n m0.c)).1).stored 0 (.slice m1.A m1.n m1.c)).1, ?_, ?_, h.f1, h.f0⟩
  · rw [World.size_setCell, World.size_setCell]
    exact SlAt.set (SlAt.set h.a1 (p := ⟨g, 1, none⟩) h.f1 _) (p := ⟨g, 0, none⟩) h.f1 _
  · rw [World.size_setCell, World.size_setCell]
    exact SlAt.set (SlAt.set h.a0 (p := ⟨g, 1, none⟩) h.f0 _) (p := ⟨g, 0, none⟩) h.f0 _
/-- What is there once they are in order. -/
def Two (base : Nat) (w : World) (g : Nat) (m0 m1 : ListV) (r0 r1 : List ValV) (w' : World) : Prop :=
  Below base w w' ∧ ((cmpR r1 r0 < 0 ∧ TwoAt base w' g m1 m0 r1 r0) ∨ (¬ cmpR r1 r0 < 0 ∧ TwoAt base w' g m0 m1 r0 r1))
set_option maxHeartbeats 2000000 in
theorem insert_c (base g : Nat) (w : World) (m0 m1 : ListV) (r0 r1 : List ValV) (h : TwoAt base w g m0 m1 r0 r1) (hg : base ≤ g) (hbw : base ≤ w.heap.size) :
    Calls Tryd.prog 38 #[.slice (some ⟨g, 0, none⟩) 2 2, .int .i64 0, .int .i64 2, .func (.func 6) #[] #[]] w fun e w' => e = .returned (.tuple #[]) ∧ Two base w g m0 m1 r0 r1 w' := by
  have hc := h.cells
  obtain ⟨A0, n0, c0⟩ := m0
  obtain ⟨A1, n1, c1⟩ := m1
  obtain ⟨h0, h1, z0, z1⟩ := hc
  simp only at h0 h1
  have Q := hide (fun (W : World) (hW : Below w.heap.size w W) => orders_c A1 A0 n1 c1 n0 c0 r1 r0 W (h.a1.kept hW) (h.a0.kept hW))
  have H := hide h
  clear h
  have HX : ∃ x, Hid (cmpR r1 r0 = x) := ⟨_, rfl⟩
  obtain ⟨x, HX⟩ := HX
  rw [HX.out] at Q
  have hw0 : IntKind.i64.wrap 0 = 0 := by decide
  have hw1 : IntKind.i64.wrap 1 = 1 := by decide
  by_cases hx : x < 0
  · go_enter Tryd.func38, Tryd.ntmps38
    go_wp2_with fail
    refine wp_loop_rounds 3 ?_
    rw [rounds_succ]
    go_wp2_with fail
    refine wp_loop_rounds 3 ?_
    rw [rounds_succ]
    go_wp2_with fail
    refine wp_region_held_drew (S := (fun w' => Below w.heap.size w w')) (by kernel_rfl) ((Below.refl _ _).drew) (fun hHeld => ?_)
    first | (refine wpAnyH_take (i := 0) (v := ?_) nth0 (by kernel_rfl) (by kernel_rfl) (by kernel_rfl) (fun _ _ _ h => h) (Or.inl ⟨by rfl, ?_⟩) hHeld ?_; rotate_left; focus (intro wS hSw; (have k0 := kept hSw h0; have k1 := kept hSw h1); go_simp; try with_reducible rfl; done)) | (refine wpAnyH_take (i := 0) (v := undef) nth0 (by kernel_rfl) (by kernel_rfl) (by kernel_rfl) (fun _ _ _ h => h) (Or.inr ⟨by rfl, rfl⟩) hHeld ?_)
    (try simp only [Act.put]); (try simp only [List.setIfInBounds_toArray]); (try simp only [List.set_cons_succ]); (try simp only [List.set_cons_zero])
    first | (refine wpAnyH_take (i := 1) (v := ?_) nth1 (by kernel_rfl) (by kernel_rfl) (by kernel_rfl) (fun _ _ _ h => h) (Or.inl ⟨by rfl, ?_⟩) hHeld ?_; rotate_left; focus (intro wS hSw; (have k0 := kept hSw h0; have k1 := kept hSw h1); go_simp; try with_reducible rfl; done)) | (refine wpAnyH_take (i := 1) (v := undef) nth1 (by kernel_rfl) (by kernel_rfl) (by kernel_rfl) (fun _ _ _ h => h) (Or.inr ⟨by rfl, rfl⟩) hHeld ?_)
    (try simp only [Act.put]); (try simp only [List.setIfInBounds_toArray]); (try simp only [List.set_cons_succ]); (try simp only [List.set_cons_zero])
    first | (refine wpAnyH_take (i := 2) (v := ?_) nth2 (by kernel_rfl) (by kernel_rfl) (by kernel_rfl) (fun _ _ _ h => h) (Or.inl ⟨by rfl, ?_⟩) hHeld ?_; rotate_left; focus (intro wS hSw; (have k0 := kept hSw h0; have k1 := kept hSw h1); go_simp; try with_reducible rfl; done)) | (refine wpAnyH_take (i := 2) (v := undef) nth2 (by kernel_rfl) (by kernel_rfl) (by kernel_rfl) (fun _ _ _ h => h) (Or.inr ⟨by rfl, rfl⟩) hHeld ?_)
    (try simp only [Act.put]); (try simp only [List.setIfInBounds_toArray]); (try simp only [List.set_cons_succ]); (try simp only [List.set_cons_zero])
    first | (refine wpAnyH_take (i := 3) (v := ?_) nth3 (by kernel_rfl) (by kernel_rfl) (by kernel_rfl) (fun _ _ _ h => h) (Or.inl ⟨by rfl, ?_⟩) hHeld ?_; rotate_left; focus (intro wS hSw; (have k0 := kept hSw h0; have k1 := kept hSw h1); go_simp; try with_reducible rfl; done)) | (refine wpAnyH_take (i := 3) (v := undef) nth3 (by kernel_rfl) (by kernel_rfl) (by kernel_rfl) (fun _ _ _ h => h) (Or.inr ⟨by rfl, rfl⟩) hHeld ?_)
    (try simp only [Act.put]); (try simp only [List.setIfInBounds_toArray]); (try simp only [List.set_cons_succ]); (try simp only [List.set_cons_zero])
    first | (refine wpAnyH_take (i := 4) (v := ?_) nth4 (by kernel_rfl) (by kernel_rfl) (by kernel_rfl) (fun _ _ _ h => h) (Or.inl ⟨by rfl, ?_⟩) hHeld ?_; rotate_left; focus (intro wS hSw; (have k0 := kept hSw h0; have k1 := kept hSw h1); go_simp; try with_reducible rfl; done)) | (refine wpAnyH_take (i := 4) (v := undef) nth4 (by kernel_rfl) (by kernel_rfl) (by kernel_rfl) (fun _ _ _ h => h) (Or.inr ⟨by rfl, rfl⟩) hHeld ?_)
    (try simp only [Act.put]); (try simp only [List.setIfInBounds_toArray]); (try simp only [List.set_cons_succ]); (try simp only [List.set_cons_zero])
    first | (refine wpAnyH_take (i := 5) (v := ?_) nth5 (by kernel_rfl) (by kernel_rfl) (by kernel_rfl) (fun _ _ _ h => h) (Or.inl ⟨by rfl, ?_⟩) hHeld ?_; rotate_left; focus (intro wS hSw; (have k0 := kept hSw h0; have k1 := kept hSw h1); go_simp; try with_reducible rfl; done)) | (refine wpAnyH_take (i := 5) (v := undef) nth5 (by kernel_rfl) (by kernel_rfl) (by kernel_rfl) (fun _ _ _ h => h) (Or.inr ⟨by rfl, rfl⟩) hHeld ?_)
    (try simp only [Act.put]); (try simp only [List.setIfInBounds_toArray]); (try simp only [List.set_cons_succ]); (try simp only [List.set_cons_zero])
    first | (refine wpAnyH_take (i := 6) (v := ?_) nth6 (by kernel_rfl) (by kernel_rfl) (by kernel_rfl) (fun _ _ _ h => h) (Or.inl ⟨by rfl, ?_⟩) hHeld ?_; rotate_left; focus (intro wS hSw; (have k0 := kept hSw h0; have k1 := kept hSw h1); go_simp; try with_reducible rfl; done)) | (refine wpAnyH_take (i := 6) (v := undef) nth6 (by kernel_rfl) (by kernel_rfl) (by kernel_rfl) (fun _ _ _ h => h) (Or.inr ⟨by rfl, rfl⟩) hHeld ?_)
    (try simp only [Act.put]); (try simp only [List.setIfInBounds_toArray]); (try simp only [List.set_cons_succ]); (try simp only [List.set_cons_zero])
    first | (refine wpAnyH_take (i := 7) (v := ?_) nth7 (by kernel_rfl) (by kernel_rfl) (by kernel_rfl) (fun _ _ _ h => h) (Or.inl ⟨by rfl, ?_⟩) hHeld ?_; rotate_left; focus (intro wS hSw; (have k0 := kept hSw h0; have k1 := kept hSw h1); go_simp; try with_reducible rfl; done)) | (refine wpAnyH_take (i := 7) (v := undef) nth7 (by kernel_rfl) (by kernel_rfl) (by kernel_rfl) (fun _ _ _ h => h) (Or.inr ⟨by rfl, rfl⟩) hHeld ?_)
    (try simp only [Act.put]); (try simp only [List.setIfInBounds_toArray]); (try simp only [List.set_cons_succ]); (try simp only [List.set_cons_zero])
    first | (refine wpAnyH_take (i := 8) (v := ?_) nth8 (by kernel_rfl) (by kernel_rfl) (by kernel_rfl) (fun _ _ _ h => h) (Or.inl ⟨by rfl, ?_⟩) hHeld ?_; rotate_left; focus (intro wS hSw; (have k0 := kept hSw h0; have k1 := kept hSw h1); go_simp; try with_reducible rfl; done)) | (refine wpAnyH_take (i := 8) (v := undef) nth8 (by kernel_rfl) (by kernel_rfl) (by kernel_rfl) (fun _ _ _ h => h) (Or.inr ⟨by rfl, rfl⟩) hHeld ?_)
    (try simp only [Act.put]); (try simp only [List.setIfInBounds_toArray]); (try simp only [List.set_cons_succ]); (try simp only [List.set_cons_zero])
    first | (refine wpAnyH_take (i := 9) (v := ?_) nth9 (by kernel_rfl) (by kernel_rfl) (by kernel_rfl) (fun _ _ _ h => h) (Or.inl ⟨by rfl, ?_⟩) hHeld ?_; rotate_left; focus (intro wS hSw; (have k0 := kept hSw h0; have k1 := kept hSw h1); go_simp; try with_reducible rfl; done)) | (refine wpAnyH_take (i := 9) (v := undef) nth9 (by kernel_rfl) (by kernel_rfl) (by kernel_rfl) (fun _ _ _ h => h) (Or.inr ⟨by rfl, rfl⟩) hHeld ?_)
    (try simp only [Act.put]); (try simp only [List.setIfInBounds_toArray]); (try simp only [List.set_cons_succ]); (try simp only [List.set_cons_zero])
    first | (refine wpAnyH_take (i := 10) (v := ?_) nth10 (by kernel_rfl) (by kernel_rfl) (by kernel_rfl) (fun _ _ _ h => h) (Or.inl ⟨by rfl, ?_⟩) hHeld ?_; rotate_left; focus (intro wS hSw; (have k0 := kept hSw h0; have k1 := kept hSw h1); go_simp; try with_reducible rfl; done)) | (refine wpAnyH_take (i := 10) (v := undef) nth10 (by kernel_rfl) (by kernel_rfl) (by kernel_rfl) (fun _ _ _ h => h) (Or.inr ⟨by rfl, rfl⟩) hHeld ?_)
    (try simp only [Act.put]); (try simp only [List.setIfInBounds_toArray]); (try simp only [List.set_cons_succ]); (try simp only [List.set_cons_zero])
    first | (refine wpAnyH_take (i := 11) (v := ?_) nth11 (by kernel_rfl) (by kernel_rfl) (by kernel_rfl) (fun _ _ _ h => h) (Or.inl ⟨by rfl, ?_⟩) hHeld ?_; rotate_left; focus (intro wS hSw; (have k0 := kept hSw h0; have k1 := kept hSw h1); go_simp; try with_reducible rfl; done)) | (refine wpAnyH_take (i := 11) (v := undef) nth11 (by kernel_rfl) (by kernel_rfl) (by kernel_rfl) (fun _ _ _ h => h) (Or.inr ⟨by rfl, rfl⟩) hHeld ?_)
    (try simp only [Act.put]); (try simp only [List.setIfInBounds_toArray]); (try simp only [List.set_cons_succ]); (try simp only [List.set_cons_zero])
    first | (refine wpAnyH_take (i := 12) (v := ?_) nth12 (by kernel_rfl) (by kernel_rfl) (by kernel_rfl) (fun _ _ _ h => h) (Or.inl ⟨by rfl, ?_⟩) hHeld ?_; rotate_left; focus (intro wS hSw; (have k0 := kept hSw h0; have k1 := kept hSw h1); go_simp; try with_reducible rfl; done)) | (refine wpAnyH_take (i := 12) (v := undef) nth12 (by kernel_rfl) (by kernel_rfl) (by kernel_rfl) (fun _ _ _ h => h) (Or.inr ⟨by rfl, rfl⟩) hHeld ?_)
    (try simp only [Act.put]); (try simp only [List.setIfInBounds_toArray]); (try simp only [List.set_cons_succ]); (try simp only [List.set_cons_zero])
    first | (refine wpAnyH_take (i := 13) (v := ?_) nth13 (by kernel_rfl) (by kernel_rfl) (by kernel_rfl) (fun _ _ _ h => h) (Or.inl ⟨by rfl, ?_⟩) hHeld ?_; rotate_left; focus (intro wS hSw; (have k0 := kept hSw h0; have k1 := kept hSw h1); go_simp; try with_reducible rfl; done)) | (refine wpAnyH_take (i := 13) (v := undef) nth13 (by kernel_rfl) (by kernel_rfl) (by kernel_rfl) (fun _ _ _ h => h) (Or.inr ⟨by rfl, rfl⟩) hHeld ?_)
    (try simp only [Act.put]); (try simp only [List.setIfInBounds_toArray]); (try simp only [List.set_cons_succ]); (try simp only [List.set_cons_zero])
    refine wpAnyH_ready (rs := [14]) (by kernel_rfl) (by simp) ?_
    refine AllReadyH.cons nth14 (fun K hK => ?_) AllReadyH.nil
    go_simp
    (go_at_call 6; refine (Q.out _ hHeld).mono ?_; rintro e w' ⟨rfl, hb⟩)
    refine hK.out _ _ (Bel.then hHeld hb) (fun hHeld => ?_)
    clear hK K
    (try simp only [Act.put]); (try simp only [List.setIfInBounds_toArray]); (try simp only [List.set_cons_succ]); (try simp only [List.set_cons_zero])
    first | (refine wpAnyH_take (i := 15) (v := ?_) nth15 (by kernel_rfl) (by kernel_rfl) (by kernel_rfl) (fun _ _ _ h => h) (Or.inl ⟨by rfl, ?_⟩) hHeld ?_; rotate_left; focus (intro wS hSw; (have k0 := kept hSw h0; have k1 := kept hSw h1); go_simp; try with_reducible rfl; done)) | (refine wpAnyH_take (i := 15) (v := undef) nth15 (by kernel_rfl) (by kernel_rfl) (by kernel_rfl) (fun _ _ _ h => h) (Or.inr ⟨by rfl, rfl⟩) hHeld ?_)
    (try simp only [Act.put]); (try simp only [List.setIfInBounds_toArray]); (try simp only [List.set_cons_succ]); (try simp only [List.set_cons_zero])
    first | (refine wpAnyH_take (i := 16) (v := ?_) nth16 (by kernel_rfl) (by kernel_rfl) (by kernel_rfl) (fun _ _ _ h => h) (Or.inl ⟨by rfl, ?_⟩) hHeld ?_; rotate_left; focus (intro wS hSw; (have k0 := kept hSw h0; have k1 := kept hSw h1); go_simp; try with_reducible rfl; done)) | (refine wpAnyH_take (i := 16) (v := undef) nth16 (by kernel_rfl) (by kernel_rfl) (by kernel_rfl) (fun _ _ _ h => h) (Or.inr ⟨by rfl, rfl⟩) hHeld ?_)
    (try simp only [Act.put]); (try simp only [List.setIfInBounds_toArray]); (try simp only [List.set_cons_succ]); (try simp only [List.set_cons_zero])
    refine wpAnyH_done (by kernel_rfl) ?_ _
    have H1 := hide (H.out.kept hHeld)
    obtain ⟨k0, k1, y0, y1⟩ := H1.out.cells
    simp only at k0 k1
    go_wp2_with fail
    go_region
    have H2 := hide ((H1.out.kept (Below.refl _ _).drew).swap)
    have HB2 := hide (Below.setCell (Below.setCell ((hHeld.mono hbw).drew) (p := ⟨g, 1, none⟩) hg (.slice A0 n0 c0)) (p := ⟨g, 0, none⟩) hg (.slice A1 n1 c1))
    clear k0 k1 y0 y1 H1 h0 h1 z0 z1 hHeld
    go_wp2_with fail
    rw [rounds_succ]
    go_wp2_with fail
    refine wp_region_held_drew (S := (fun w' => TwoAt base w' g ⟨A1, n1, c1⟩ ⟨A0, n0, c0⟩ r1 r0 ∧ Below base w w')) (by kernel_rfl) (⟨H2.out.kept (Below.refl _ _).drew, HB2.out.drew⟩) (fun hHeld => ?_)
    first | (refine wpAnyH_take (i := 0) (v := ?_) nth0 (by kernel_rfl) (by kernel_rfl) (by kernel_rfl) (fun _ _ _ h => h) (Or.inl ⟨by rfl, ?_⟩) hHeld ?_; rotate_left; focus (intro wS hSw; go_simp; try with_reducible rfl; done)) | (refine wpAnyH_take (i := 0) (v := undef) nth0 (by kernel_rfl) (by kernel_rfl) (by kernel_rfl) (fun _ _ _ h => h) (Or.inr ⟨by rfl, rfl⟩) hHeld ?_)
    (try simp only [Act.put]); (try simp only [List.setIfInBounds_toArray]); (try simp only [List.set_cons_succ]); (try simp only [List.set_cons_zero])
    first | (refine wpAnyH_take (i := 1) (v := ?_) nth1 (by kernel_rfl) (by kernel_rfl) (by kernel_rfl) (fun _ _ _ h => h) (Or.inl ⟨by rfl, ?_⟩) hHeld ?_; rotate_left; focus (intro wS hSw; go_simp; try with_reducible rfl; done)) | (refine wpAnyH_take (i := 1) (v := undef) nth1 (by kernel_rfl) (by kernel_rfl) (by kernel_rfl) (fun _ _ _ h => h) (Or.inr ⟨by rfl, rfl⟩) hHeld ?_)
    (try simp only [Act.put]); (try simp only [List.setIfInBounds_toArray]); (try simp only [List.set_cons_succ]); (try simp only [List.set_cons_zero])
    first | (refine wpAnyH_take (i := 2) (v := ?_) nth2 (by kernel_rfl) (by kernel_rfl) (by kernel_rfl) (fun _ _ _ h => h) (Or.inl ⟨by rfl, ?_⟩) hHeld ?_; rotate_left; focus (intro wS hSw; go_simp; try with_reducible rfl; done)) | (refine wpAnyH_take (i := 2) (v := undef) nth2 (by kernel_rfl) (by kernel_rfl) (by kernel_rfl) (fun _ _ _ h => h) (Or.inr ⟨by rfl, rfl⟩) hHeld ?_)
    (try simp only [Act.put]); (try simp only [List.setIfInBounds_toArray]); (try simp only [List.set_cons_succ]); (try simp only [List.set_cons_zero])
    first | (refine wpAnyH_take (i := 3) (v := ?_) nth3 (by kernel_rfl) (by kernel_rfl) (by kernel_rfl) (fun _ _ _ h => h) (Or.inl ⟨by rfl, ?_⟩) hHeld ?_; rotate_left; focus (intro wS hSw; go_simp; try with_reducible rfl; done)) | (refine wpAnyH_take (i := 3) (v := undef) nth3 (by kernel_rfl) (by kernel_rfl) (by kernel_rfl) (fun _ _ _ h => h) (Or.inr ⟨by rfl, rfl⟩) hHeld ?_)
    (try simp only [Act.put]); (try simp only [List.setIfInBounds_toArray]); (try simp only [List.set_cons_succ]); (try simp only [List.set_cons_zero])
    first | (refine wpAnyH_take (i := 4) (v := ?_) nth4 (by kernel_rfl) (by kernel_rfl) (by kernel_rfl) (fun _ _ _ h => h) (Or.inl ⟨by rfl, ?_⟩) hHeld ?_; rotate_left; focus (intro wS hSw; go_simp; try with_reducible rfl; done)) | (refine wpAnyH_take (i := 4) (v := undef) nth4 (by kernel_rfl) (by kernel_rfl) (by kernel_rfl) (fun _ _ _ h => h) (Or.inr ⟨by rfl, rfl⟩) hHeld ?_)
    (try simp only [Act.put]); (try simp only [List.setIfInBounds_toArray]); (try simp only [List.set_cons_succ]); (try simp only [List.set_cons_zero])
    first | (refine wpAnyH_take (i := 5) (v := ?_) nth5 (by kernel_rfl) (by kernel_rfl) (by kernel_rfl) (fun _ _ _ h => h) (Or.inl ⟨by rfl, ?_⟩) hHeld ?_; rotate_left; focus (intro wS hSw; go_simp; try with_reducible rfl; done)) | (refine wpAnyH_take (i := 5) (v := undef) nth5 (by kernel_rfl) (by kernel_rfl) (by kernel_rfl) (fun _ _ _ h => h) (Or.inr ⟨by rfl, rfl⟩) hHeld ?_)
    (try simp only [Act.put]); (try simp only [List.setIfInBounds_toArray]); (try simp only [List.set_cons_succ]); (try simp only [List.set_cons_zero])
    first | (refine wpAnyH_take (i := 6) (v := ?_) nth6 (by kernel_rfl) (by kernel_rfl) (by kernel_rfl) (fun _ _ _ h => h) (Or.inl ⟨by rfl, ?_⟩) hHeld ?_; rotate_left; focus (intro wS hSw; go_simp; try with_reducible rfl; done)) | (refine wpAnyH_take (i := 6) (v := undef) nth6 (by kernel_rfl) (by kernel_rfl) (by kernel_rfl) (fun _ _ _ h => h) (Or.inr ⟨by rfl, rfl⟩) hHeld ?_)
    (try simp only [Act.put]); (try simp only [List.setIfInBounds_toArray]); (try simp only [List.set_cons_succ]); (try simp only [List.set_cons_zero])
    first | (refine wpAnyH_take (i := 7) (v := ?_) nth7 (by kernel_rfl) (by kernel_rfl) (by kernel_rfl) (fun _ _ _ h => h) (Or.inl ⟨by rfl, ?_⟩) hHeld ?_; rotate_left; focus (intro wS hSw; go_simp; try with_reducible rfl; done)) | (refine wpAnyH_take (i := 7) (v := undef) nth7 (by kernel_rfl) (by kernel_rfl) (by kernel_rfl) (fun _ _ _ h => h) (Or.inr ⟨by rfl, rfl⟩) hHeld ?_)
    (try simp only [Act.put]); (try simp only [List.setIfInBounds_toArray]); (try simp only [List.set_cons_succ]); (try simp only [List.set_cons_zero])
    first | (refine wpAnyH_take (i := 8) (v := ?_) nth8 (by kernel_rfl) (by kernel_rfl) (by kernel_rfl) (fun _ _ _ h => h) (Or.inl ⟨by rfl, ?_⟩) hHeld ?_; rotate_left; focus (intro wS hSw; go_simp; try with_reducible rfl; done)) | (refine wpAnyH_take (i := 8) (v := undef) nth8 (by kernel_rfl) (by kernel_rfl) (by kernel_rfl) (fun _ _ _ h => h) (Or.inr ⟨by rfl, rfl⟩) hHeld ?_)
    (try simp only [Act.put]); (try simp only [List.setIfInBounds_toArray]); (try simp only [List.set_cons_succ]); (try simp only [List.set_cons_zero])
    first | (refine wpAnyH_take (i := 9) (v := ?_) nth9 (by kernel_rfl) (by kernel_rfl) (by kernel_rfl) (fun _ _ _ h => h) (Or.inl ⟨by rfl, ?_⟩) hHeld ?_; rotate_left; focus (intro wS hSw; go_simp; try with_reducible rfl; done)) | (refine wpAnyH_take (i := 9) (v := undef) nth9 (by kernel_rfl) (by kernel_rfl) (by kernel_rfl) (fun _ _ _ h => h) (Or.inr ⟨by rfl, rfl⟩) hHeld ?_)
    (try simp only [Act.put]); (try simp only [List.setIfInBounds_toArray]); (try simp only [List.set_cons_succ]); (try simp only [List.set_cons_zero])
    first | (refine wpAnyH_take (i := 10) (v := ?_) nth10 (by kernel_rfl) (by kernel_rfl) (by kernel_rfl) (fun _ _ _ h => h) (Or.inl ⟨by rfl, ?_⟩) hHeld ?_; rotate_left; focus (intro wS hSw; go_simp; try with_reducible rfl; done)) | (refine wpAnyH_take (i := 10) (v := undef) nth10 (by kernel_rfl) (by kernel_rfl) (by kernel_rfl) (fun _ _ _ h => h) (Or.inr ⟨by rfl, rfl⟩) hHeld ?_)
    (try simp only [Act.put]); (try simp only [List.setIfInBounds_toArray]); (try simp only [List.set_cons_succ]); (try simp only [List.set_cons_zero])
    first | (refine wpAnyH_take (i := 11) (v := ?_) nth11 (by kernel_rfl) (by kernel_rfl) (by kernel_rfl) (fun _ _ _ h => h) (Or.inl ⟨by rfl, ?_⟩) hHeld ?_; rotate_left; focus (intro wS hSw; go_simp; try with_reducible rfl; done)) | (refine wpAnyH_take (i := 11) (v := undef) nth11 (by kernel_rfl) (by kernel_rfl) (by kernel_rfl) (fun _ _ _ h => h) (Or.inr ⟨by rfl, rfl⟩) hHeld ?_)
    (try simp only [Act.put]); (try simp only [List.setIfInBounds_toArray]); (try simp only [List.set_cons_succ]); (try simp only [List.set_cons_zero])
    first | (refine wpAnyH_take (i := 12) (v := ?_) nth12 (by kernel_rfl) (by kernel_rfl) (by kernel_rfl) (fun _ _ _ h => h) (Or.inl ⟨by rfl, ?_⟩) hHeld ?_; rotate_left; focus (intro wS hSw; go_simp; try with_reducible rfl; done)) | (refine wpAnyH_take (i := 12) (v := undef) nth12 (by kernel_rfl) (by kernel_rfl) (by kernel_rfl) (fun _ _ _ h => h) (Or.inr ⟨by rfl, rfl⟩) hHeld ?_)
    (try simp only [Act.put]); (try simp only [List.setIfInBounds_toArray]); (try simp only [List.set_cons_succ]); (try simp only [List.set_cons_zero])
    first | (refine wpAnyH_take (i := 13) (v := ?_) nth13 (by kernel_rfl) (by kernel_rfl) (by kernel_rfl) (fun _ _ _ h => h) (Or.inl ⟨by rfl, ?_⟩) hHeld ?_; rotate_left; focus (intro wS hSw; go_simp; try with_reducible rfl; done)) | (refine wpAnyH_take (i := 13) (v := undef) nth13 (by kernel_rfl) (by kernel_rfl) (by kernel_rfl) (fun _ _ _ h => h) (Or.inr ⟨by rfl, rfl⟩) hHeld ?_)
    (try simp only [Act.put]); (try simp only [List.setIfInBounds_toArray]); (try simp only [List.set_cons_succ]); (try simp only [List.set_cons_zero])
    first | (refine wpAnyH_take (i := 14) (v := ?_) nth14 (by kernel_rfl) (by kernel_rfl) (by kernel_rfl) (fun _ _ _ h => h) (Or.inl ⟨by rfl, ?_⟩) hHeld ?_; rotate_left; focus (intro wS hSw; go_simp; try with_reducible rfl; done)) | (refine wpAnyH_take (i := 14) (v := undef) nth14 (by kernel_rfl) (by kernel_rfl) (by kernel_rfl) (fun _ _ _ h => h) (Or.inr ⟨by rfl, rfl⟩) hHeld ?_)
    (try simp only [Act.put]); (try simp only [List.setIfInBounds_toArray]); (try simp only [List.set_cons_succ]); (try simp only [List.set_cons_zero])
    first | (refine wpAnyH_take (i := 15) (v := ?_) nth15 (by kernel_rfl) (by kernel_rfl) (by kernel_rfl) (fun _ _ _ h => h) (Or.inl ⟨by rfl, ?_⟩) hHeld ?_; rotate_left; focus (intro wS hSw; go_simp; try with_reducible rfl; done)) | (refine wpAnyH_take (i := 15) (v := undef) nth15 (by kernel_rfl) (by kernel_rfl) (by kernel_rfl) (fun _ _ _ h => h) (Or.inr ⟨by rfl, rfl⟩) hHeld ?_)
    (try simp only [Act.put]); (try simp only [List.setIfInBounds_toArray]); (try simp only [List.set_cons_succ]); (try simp only [List.set_cons_zero])
    first | (refine wpAnyH_take (i := 16) (v := ?_) nth16 (by kernel_rfl) (by kernel_rfl) (by kernel_rfl) (fun _ _ _ h => h) (Or.inl ⟨by rfl, ?_⟩) hHeld ?_; rotate_left; focus (intro wS hSw; go_simp; try with_reducible rfl; done)) | (refine wpAnyH_take (i := 16) (v := undef) nth16 (by kernel_rfl) (by kernel_rfl) (by kernel_rfl) (fun _ _ _ h => h) (Or.inr ⟨by rfl, rfl⟩) hHeld ?_)
    (try simp only [Act.put]); (try simp only [List.setIfInBounds_toArray]); (try simp only [List.set_cons_succ]); (try simp only [List.set_cons_zero])
    refine wpAnyH_done (by kernel_rfl) ?_ _
    go_wp2_with fail
    rw [rounds_succ]
    go_wp2_with fail
    go_end0
    exact ⟨rfl, hHeld.2, .inl ⟨by rw [HX.out]; exact hx, hHeld.1⟩⟩
  · go_enter Tryd.func38, Tryd.ntmps38
    go_wp2_with fail
    refine wp_loop_rounds 3 ?_
    rw [rounds_succ]
    go_wp2_with fail
    refine wp_loop_rounds 3 ?_
    rw [rounds_succ]
    go_wp2_with fail
    refine wp_region_held_drew (S := (fun w' => Below w.heap.size w w')) (by kernel_rfl) ((Below.refl _ _).drew) (fun hHeld => ?_)
    first | (refine wpAnyH_take (i := 0) (v := ?_) nth0 (by kernel_rfl) (by kernel_rfl) (by kernel_rfl) (fun _ _ _ h => h) (Or.inl ⟨by rfl, ?_⟩) hHeld ?_; rotate_left; focus (intro wS hSw; (have k0 := kept hSw h0; have k1 := kept hSw h1); go_simp; try with_reducible rfl; done)) | (refine wpAnyH_take (i := 0) (v := undef) nth0 (by kernel_rfl) (by kernel_rfl) (by kernel_rfl) (fun _ _ _ h => h) (Or.inr ⟨by rfl, rfl⟩) hHeld ?_)
    (try simp only [Act.put]); (try simp only [List.setIfInBounds_toArray]); (try simp only [List.set_cons_succ]); (try simp only [List.set_cons_zero])
    first | (refine wpAnyH_take (i := 1) (v := ?_) nth1 (by kernel_rfl) (by kernel_rfl) (by kernel_rfl) (fun _ _ _ h => h) (Or.inl ⟨by rfl, ?_⟩) hHeld ?_; rotate_left; focus (intro wS hSw; (have k0 := kept hSw h0; have k1 := kept hSw h1); go_simp; try with_reducible rfl; done)) | (refine wpAnyH_take (i := 1) (v := undef) nth1 (by kernel_rfl) (by kernel_rfl) (by kernel_rfl) (fun _ _ _ h => h) (Or.inr ⟨by rfl, rfl⟩) hHeld ?_)
    (try simp only [Act.put]); (try simp only [List.setIfInBounds_toArray]); (try simp only [List.set_cons_succ]); (try simp only [List.set_cons_zero])
    first | (refine wpAnyH_take (i := 2) (v := ?_) nth2 (by kernel_rfl) (by kernel_rfl) (by kernel_rfl) (fun _ _ _ h => h) (Or.inl ⟨by rfl, ?_⟩) hHeld ?_; rotate_left; focus (intro wS hSw; (have k0 := kept hSw h0; have k1 := kept hSw h1); go_simp; try with_reducible rfl; done)) | (refine wpAnyH_take (i := 2) (v := undef) nth2 (by kernel_rfl) (by kernel_rfl) (by kernel_rfl) (fun _ _ _ h => h) (Or.inr ⟨by rfl, rfl⟩) hHeld ?_)
    (try simp only [Act.put]); (try simp only [List.setIfInBounds_toArray]); (try simp only [List.set_cons_succ]); (try simp only [List.set_cons_zero])
    first | (refine wpAnyH_take (i := 3) (v := ?_) nth3 (by kernel_rfl) (by kernel_rfl) (by kernel_rfl) (fun _ _ _ h => h) (Or.inl ⟨by rfl, ?_⟩) hHeld ?_; rotate_left; focus (intro wS hSw; (have k0 := kept hSw h0; have k1 := kept hSw h1); go_simp; try with_reducible rfl; done)) | (refine wpAnyH_take (i := 3) (v := undef) nth3 (by kernel_rfl) (by kernel_rfl) (by kernel_rfl) (fun _ _ _ h => h) (Or.inr ⟨by rfl, rfl⟩) hHeld ?_)
    (try simp only [Act.put]); (try simp only [List.setIfInBounds_toArray]); (try simp only [List.set_cons_succ]); (try simp only [List.set_cons_zero])
    first | (refine wpAnyH_take (i := 4) (v := ?_) nth4 (by kernel_rfl) (by kernel_rfl) (by kernel_rfl) (fun _ _ _ h => h) (Or.inl ⟨by rfl, ?_⟩) hHeld ?_; rotate_left; focus (intro wS hSw; (have k0 := kept hSw h0; have k1 := kept hSw h1); go_simp; try with_reducible rfl; done)) | (refine wpAnyH_take (i := 4) (v := undef) nth4 (by kernel_rfl) (by kernel_rfl) (by kernel_rfl) (fun _ _ _ h => h) (Or.inr ⟨by rfl, rfl⟩) hHeld ?_)
    (try simp only [Act.put]); (try simp only [List.setIfInBounds_toArray]); (try simp only [List.set_cons_succ]); (try simp only [List.set_cons_zero])
    first | (refine wpAnyH_take (i := 5) (v := ?_) nth5 (by kernel_rfl) (by kernel_rfl) (by kernel_rfl) (fun _ _ _ h => h) (Or.inl ⟨by rfl, ?_⟩) hHeld ?_; rotate_left; focus (intro wS hSw; (have k0 := kept hSw h0; have k1 := kept hSw h1); go_simp; try with_reducible rfl; done)) | (refine wpAnyH_take (i := 5) (v := undef) nth5 (by kernel_rfl) (by kernel_rfl) (by kernel_rfl) (fun _ _ _ h => h) (Or.inr ⟨by rfl, rfl⟩) hHeld ?_)
    (try simp only [Act.put]); (try simp only [List.setIfInBounds_toArray]); (try simp only [List.set_cons_succ]); (try simp only [List.set_cons_zero])
    first | (refine wpAnyH_take (i := 6) (v := ?_) nth6 (by kernel_rfl) (by kernel_rfl) (by kernel_rfl) (fun _ _ _ h => h) (Or.inl ⟨by rfl, ?_⟩) hHeld ?_; rotate_left; focus (intro wS hSw; (have k0 := kept hSw h0; have k1 := kept hSw h1); go_simp; try with_reducible rfl; done)) | (refine wpAnyH_take (i := 6) (v := undef) nth6 (by kernel_rfl) (by kernel_rfl) (by kernel_rfl) (fun _ _ _ h => h) (Or.inr ⟨by rfl, rfl⟩) hHeld ?_)
    (try simp only [Act.put]); (try simp only [List.setIfInBounds_toArray]); (try simp only [List.set_cons_succ]); (try simp only [List.set_cons_zero])
    first | (refine wpAnyH_take (i := 7) (v := ?_) nth7 (by kernel_rfl) (by kernel_rfl) (by kernel_rfl) (fun _ _ _ h => h) (Or.inl ⟨by rfl, ?_⟩) hHeld ?_; rotate_left; focus (intro wS hSw; (have k0 := kept hSw h0; have k1 := kept hSw h1); go_simp; try with_reducible rfl; done)) | (refine wpAnyH_take (i := 7) (v := undef) nth7 (by kernel_rfl) (by kernel_rfl) (by kernel_rfl) (fun _ _ _ h => h) (Or.inr ⟨by rfl, rfl⟩) hHeld ?_)
    (try simp only [Act.put]); (try simp only [List.setIfInBounds_toArray]); (try simp only [List.set_cons_succ]); (try simp only [List.set_cons_zero])
    first | (refine wpAnyH_take (i := 8) (v := ?_) nth8 (by kernel_rfl) (by kernel_rfl) (by kernel_rfl) (fun _ _ _ h => h) (Or.inl ⟨by rfl, ?_⟩) hHeld ?_; rotate_left; focus (intro wS hSw; (have k0 := kept hSw h0; have k1 := kept hSw h1); go_simp; try with_reducible rfl; done)) | (refine wpAnyH_take (i := 8) (v := undef) nth8 (by kernel_rfl) (by kernel_rfl) (by kernel_rfl) (fun _ _ _ h => h) (Or.inr ⟨by rfl, rfl⟩) hHeld ?_)
    (try simp only [Act.put]); (try simp only [List.setIfInBounds_toArray]); (try simp only [List.set_cons_succ]); (try simp only [List.set_cons_zero])
    first | (refine wpAnyH_take (i := 9) (v := ?_) nth9 (by kernel_rfl) (by kernel_rfl) (by kernel_rfl) (fun _ _ _ h => h) (Or.inl ⟨by rfl, ?_⟩) hHeld ?_; rotate_left; focus (intro wS hSw; (have k0 := kept hSw h0; have k1 := kept hSw h1); go_simp; try with_reducible rfl; done)) | (refine wpAnyH_take (i := 9) (v := undef) nth9 (by kernel_rfl) (by kernel_rfl) (by kernel_rfl) (fun _ _ _ h => h) (Or.inr ⟨by rfl, rfl⟩) hHeld ?_)
    (try simp only [Act.put]); (try simp only [List.setIfInBounds_toArray]); (try simp only [List.set_cons_succ]); (try simp only [List.set_cons_zero])
    first | (refine wpAnyH_take (i := 10) (v := ?_) nth10 (by kernel_rfl) (by kernel_rfl) (by kernel_rfl) (fun _ _ _ h => h) (Or.inl ⟨by rfl, ?_⟩) hHeld ?_; rotate_left; focus (intro wS hSw; (have k0 := kept hSw h0; have k1 := kept hSw h1); go_simp; try with_reducible rfl; done)) | (refine wpAnyH_take (i := 10) (v := undef) nth10 (by kernel_rfl) (by kernel_rfl) (by kernel_rfl) (fun _ _ _ h => h) (Or.inr ⟨by rfl, rfl⟩) hHeld ?_)
    (try simp only [Act.put]); (try simp only [List.setIfInBounds_toArray]); (try simp only [List.set_cons_succ]); (try simp only [List.set_cons_zero])
    first | (refine wpAnyH_take (i := 11) (v := ?_) nth11 (by kernel_rfl) (by kernel_rfl) (by kernel_rfl) (fun _ _ _ h => h) (Or.inl ⟨by rfl, ?_⟩) hHeld ?_; rotate_left; focus (intro wS hSw; (have k0 := kept hSw h0; have k1 := kept hSw h1); go_simp; try with_reducible rfl; done)) | (refine wpAnyH_take (i := 11) (v := undef) nth11 (by kernel_rfl) (by kernel_rfl) (by kernel_rfl) (fun _ _ _ h => h) (Or.inr ⟨by rfl, rfl⟩) hHeld ?_)
    (try simp only [Act.put]); (try simp only [List.setIfInBounds_toArray]); (try simp only [List.set_cons_succ]); (try simp only [List.set_cons_zero])
    first | (refine wpAnyH_take (i := 12) (v := ?_) nth12 (by kernel_rfl) (by kernel_rfl) (by kernel_rfl) (fun _ _ _ h => h) (Or.inl ⟨by rfl, ?_⟩) hHeld ?_; rotate_left; focus (intro wS hSw; (have k0 := kept hSw h0; have k1 := kept hSw h1); go_simp; try with_reducible rfl; done)) | (refine wpAnyH_take (i := 12) (v := undef) nth12 (by kernel_rfl) (by kernel_rfl) (by kernel_rfl) (fun _ _ _ h => h) (Or.inr ⟨by rfl, rfl⟩) hHeld ?_)
    (try simp only [Act.put]); (try simp only [List.setIfInBounds_toArray]); (try simp only [List.set_cons_succ]); (try simp only [List.set_cons_zero])
    first | (refine wpAnyH_take (i := 13) (v := ?_) nth13 (by kernel_rfl) (by kernel_rfl) (by kernel_rfl) (fun _ _ _ h => h) (Or.inl ⟨by rfl, ?_⟩) hHeld ?_; rotate_left; focus (intro wS hSw; (have k0 := kept hSw h0; have k1 := kept hSw h1); go_simp; try with_reducible rfl; done)) | (refine wpAnyH_take (i := 13) (v := undef) nth13 (by kernel_rfl) (by kernel_rfl) (by kernel_rfl) (fun _ _ _ h => h) (Or.inr ⟨by rfl, rfl⟩) hHeld ?_)
    (try simp only [Act.put]); (try simp only [List.setIfInBounds_toArray]); (try simp only [List.set_cons_succ]); (try simp only [List.set_cons_zero])
    refine wpAnyH_ready (rs := [14]) (by kernel_rfl) (by simp) ?_
    refine AllReadyH.cons nth14 (fun K hK => ?_) AllReadyH.nil
    go_simp
    (go_at_call 6; refine (Q.out _ hHeld).mono ?_; rintro e w' ⟨rfl, hb⟩)
    refine hK.out _ _ (Bel.then hHeld hb) (fun hHeld => ?_)
    clear hK K
    (try simp only [Act.put]); (try simp only [List.setIfInBounds_toArray]); (try simp only [List.set_cons_succ]); (try simp only [List.set_cons_zero])
    first | (refine wpAnyH_take (i := 15) (v := ?_) nth15 (by kernel_rfl) (by kernel_rfl) (by kernel_rfl) (fun _ _ _ h => h) (Or.inl ⟨by rfl, ?_⟩) hHeld ?_; rotate_left; focus (intro wS hSw; (have k0 := kept hSw h0; have k1 := kept hSw h1); go_simp; try with_reducible rfl; done)) | (refine wpAnyH_take (i := 15) (v := undef) nth15 (by kernel_rfl) (by kernel_rfl) (by kernel_rfl) (fun _ _ _ h => h) (Or.inr ⟨by rfl, rfl⟩) hHeld ?_)
    (try simp only [Act.put]); (try simp only [List.setIfInBounds_toArray]); (try simp only [List.set_cons_succ]); (try simp only [List.set_cons_zero])
    first | (refine wpAnyH_take (i := 16) (v := ?_) nth16 (by kernel_rfl) (by kernel_rfl) (by kernel_rfl) (fun _ _ _ h => h) (Or.inl ⟨by rfl, ?_⟩) hHeld ?_; rotate_left; focus (intro wS hSw; (have k0 := kept hSw h0; have k1 := kept hSw h1); go_simp; try with_reducible rfl; done)) | (refine wpAnyH_take (i := 16) (v := undef) nth16 (by kernel_rfl) (by kernel_rfl) (by kernel_rfl) (fun _ _ _ h => h) (Or.inr ⟨by rfl, rfl⟩) hHeld ?_)
    (try simp only [Act.put]); (try simp only [List.setIfInBounds_toArray]); (try simp only [List.set_cons_succ]); (try simp only [List.set_cons_zero])
    refine wpAnyH_done (by kernel_rfl) ?_ _
    have H1 := hide (H.out.kept hHeld)
    go_wp2_with fail
    rw [rounds_succ]
    go_wp2_with fail
    go_end0
    exact ⟨rfl, hHeld.mono hbw, .inr ⟨by rw [HX.out]; omega, H1.out⟩⟩
theorem stable_c (base g : Nat) (w : World) (m0 m1 : ListV) (r0 r1 : List ValV) (h : TwoAt base w g m0 m1 r0 r1) (hg : base ≤ g) (hbw : base ≤ w.heap.size) :
    Calls Tryd.prog 28 #[.slice (some ⟨g, 0, none⟩) 2 2, .int .i64 2, .func (.func 6) #[] #[]] w fun e w' => e = .returned (.tuple #[]) ∧ Two base w g m0 m1 r0 r1 w' := by
  have Q := hide (insert_c base g w m0 m1 r0 r1 h hg hbw)
  clear h
  go_enter Tryd.func28, Tryd.ntmps28
  go_wp2_with fail
  refine wp_loop_rounds 3 ?_
  rw [rounds_succ]
  go_wp2_with fail
  refine Q.out.mono ?_
  rintro e w' ⟨rfl, hT⟩
  have HT := hide hT
  clear hT
  go_wp2_with fail
  refine wp_loop_rounds 3 ?_
  rw [rounds_succ]
  go_wp2_with fail
  go_end0
  exact ⟨rfl, HT.out⟩
theorem sortStable_c (base g : Nat) (w : World) (m0 m1 : ListV) (r0 r1 : List ValV) (h : TwoAt base w g m0 m1 r0 r1) (hg : base ≤ g) (hbw : base ≤ w.heap.size) :
    Calls Tryd.prog 13 #[.slice (some ⟨g, 0, none⟩) 2 2, .func (.func 6) #[] #[]] w fun e w' => e = .returned (.tuple #[]) ∧ Two base w g m0 m1 r0 r1 w' := by
  have Q := hide (stable_c base g w m0 m1 r0 r1 h hg hbw)
  clear h
  go_enter Tryd.func13, Tryd.ntmps13
  go_wp2_with fail
  refine Q.out.mono ?_
  rintro e w' ⟨rfl, hT⟩
  have HT := hide hT
  clear hT
  go_wp2_with fail
  go_end0
  exact ⟨rfl, HT.out⟩
theorem rows_c (A : Option Addr) (n c : Nat) (rows : List (List ValV)) (w : World) (h : RowsAt w w.heap.size A n c rows) (hn : n ≤ 1048576) (hr : ∀ r ∈ rows, r.length ≤ 1048576) :
    Calls Tryd.prog 12 #[.slice A n c] w fun e w' => GivesNest valCells 3 w rows e w' ∧ GivesEach w rows n e w' := by
  have Q := hide (each_c A n c rows w h hn hr)
  clear h hn hr
  go_enter Tryd.func12, Tryd.ntmps12
  go_wp2_with fail
  refine Q.out.mono ?_
  rintro e w1 ⟨⟨X, cx, rfl, hX, hb, hf⟩, hE⟩
  have HX := hide hX
  have HE := hide hE
  clear hX hE
  go_wp2_with fail
  go_ret
  exact ⟨⟨X, cx, rfl, HX.out, hb, hf⟩, HE.out⟩
theorem two_each {w w1 : World} {r0 r1 : List ValV} {e : Ending} (h : GivesEach w [r0, r1] 2 e w1) : ∃ m0 m1, e = .returned (.slice (some ⟨w.heap.size, 0, none⟩) 2 2) ∧ TwoAt w.heap.size w1 w.heap.size m0 m1 r0 r1 ∧ Below w.heap.size w w1 := by
  obtain ⟨rfl, ds, hl, hE⟩ := h (by omega)
  match ds, hl with
  | [m0, m1], _ => exact ⟨m0, m1, rfl, ⟨by have := hE.own; simpa [doneV] using this, hE.each 0 m0 r0 rfl rfl, hE.each 1 m1 r1 rfl rfl, hE.fresh m0 (by simp), hE.fresh m1 (by simp)⟩, hE.below⟩
/-- The two rows in their order. -/
def sort2 (r0 r1 : List ValV) : List ValV × List ValV := if cmpR r1 r0 < 0 then (r1, r0) else (r0, r1)
/-- Two rows, sorted, in new memory. -/
def GivesTwo (w : World) (s : List ValV × List ValV) (e : Ending) (w' : World) : Prop := ∃ m0 m1, e = .returned (.slice (some ⟨w.heap.size, 0, none⟩) 2 2) ∧ TwoAt w.heap.size w' w.heap.size m0 m1 s.1 s.2 ∧ Below w.heap.size w w'
theorem Two.gives {w w1 w' : World} {m0 m1 : ListV} {r0 r1 : List ValV} (h : Two w.heap.size w1 w.heap.size m0 m1 r0 r1 w') (hb : Below w.heap.size w w1) : GivesTwo w (sort2 r0 r1) (.returned (.slice (some ⟨w.heap.size, 0, none⟩) 2 2)) w' := by
  unfold sort2
  rcases h.2 with ⟨hx, hT⟩ | ⟨hx, hT⟩
  · rw [if_pos hx]; exact ⟨m1, m0, rfl, hT, hb.trans h.1⟩
  · rw [if_neg hx]; exact ⟨m0, m1, rfl, hT, hb.trans h.1⟩
theorem sorted_c (A : Option Addr) (c : Nat) (r0 r1 : List ValV) (w : World) (h : RowsAt w w.heap.size A 2 c [r0, r1]) (h0 : r0.length ≤ 1048576) (h1 : r1.length ≤ 1048576) :
    Calls Tryd.prog 5 #[.slice A 2 c] w fun e w' => GivesTwo w (sort2 r0 r1) e w' := by
  have Q := hide (rows_c A 2 c [r0, r1] w h (by omega) (by simp; omega))
  clear h h0 h1
  go_enter Tryd.func5, Tryd.ntmps5
  go_wp2_with fail
  refine Q.out.mono ?_
  rintro e w1 ⟨_, hE⟩
  obtain ⟨m0, m1, rfl, hT, hb⟩ := two_each hE
  have Q2 := hide (sortStable_c w.heap.size w.heap.size w1 m0 m1 r0 r1 hT (Nat.le_refl _) hb.size)
  have HB := hide hb
  clear hE hT hb
  go_wp2_with fail
  refine Q2.out.mono ?_
  rintro e w2 ⟨rfl, hT2⟩
  have HT2 := hide hT2
  clear hT2
  go_wp2_with fail
  go_ret
  exact HT2.out.gives HB.out
end Go.Proofs.YtobepbpiagclnaaDoor
namespace Go.Proofs.YtobepbpiagclnaaDoor
set_option linter.unusedVariables false

theorem cmpV_refl (a : ValV) : cmpV a a = 0 := cmpV_zero.2 rfl
theorem cmpR_refl : ∀ r : List ValV, cmpR r r = 0
  | [] => rfl
  | a :: l => by simp only [cmpR, cmpV_refl, if_true, cmpR_refl l]
theorem cmpR_neg : ∀ r s : List ValV, cmpR s r = -cmpR r s
  | [], [] => rfl
  | [], _ :: _ => rfl
  | _ :: _, [] => rfl
  | a :: l, b :: m => by
    have h1 := cmpV_neg a b
    have h2 := cmpR_neg l m
    simp only [cmpR]
    by_cases h : cmpV a b = 0
    · rw [if_pos h, if_pos (by omega), h2]
    · rw [if_neg h, if_neg (by omega), h1]
theorem cmpR_trans : ∀ r s t : List ValV, cmpR r s ≤ 0 → cmpR s t ≤ 0 → cmpR r t ≤ 0
  | [], s, [], _, _ => by simp [cmpR]
  | [], s, _ :: _, _, _ => by simp [cmpR]
  | _ :: _, [], t, h, _ => by simp [cmpR] at h
  | _ :: _, _ :: _, [], _, h => by simp [cmpR] at h
  | a :: l, b :: m, c :: k, h, g => by
    simp only [cmpR] at *
    have tr := cmpV_trans a b c
    have lv := cmpV_level a b c
    have ih := cmpR_trans l m k
    by_cases h1 : cmpV a b = 0
    · rw [if_pos h1] at h
      by_cases h2 : cmpV b c = 0
      · rw [if_pos h2] at g
        have e1 := cmpV_zero.1 h1
        have e2 := cmpV_zero.1 h2
        rw [if_pos (by rw [e1, e2]; exact cmpV_refl c)]
        exact ih h g
      · rw [if_neg h2] at g
        have e1 := cmpV_zero.1 h1
        rw [e1, if_neg h2]
        exact g
    · rw [if_neg h1] at h
      have gg : cmpV b c ≤ 0 := by
        by_cases h2 : cmpV b c = 0
        · omega
        · rw [if_neg h2] at g; exact g
      have t3 := tr h gg
      by_cases h3 : cmpV a c = 0
      · exact absurd (lv h gg h3).1 h1
      · rw [if_neg h3]; exact t3
theorem cmpR_more : ∀ (r : List ValV) (v : ValV), cmpR r (r ++ [v]) = -1
  | [], v => rfl
  | a :: l, v => by
    simp only [List.cons_append, cmpR, cmpV_refl, if_true]
    exact cmpR_more l v
theorem cmpR_ahead : ∀ (r s : List ValV) (v : ValV), cmpR r s < 0 → s.length ≤ r.length → cmpR (r ++ [v]) s ≤ 0
  | [], [], v, h, _ => by simp [cmpR] at h
  | [], _ :: _, v, _, h => by simp at h
  | _ :: _, [], v, h, _ => by simp [cmpR] at h
  | a :: l, b :: m, v, h, g => by
    simp only [List.cons_append, cmpR] at *
    by_cases h1 : cmpV a b = 0
    · rw [if_pos h1] at *
      exact cmpR_ahead l m v h (by simpa using g)
    · rw [if_neg h1] at *
      omega
end Go.Proofs.YtobepbpiagclnaaDoor
namespace Go.Proofs.YtobepbpiagclnaaDoor
set_option linter.unusedVariables false

theorem cmpR_zero : ∀ {r s : List ValV}, cmpR r s = 0 ↔ r = s
  | [], [] => by simp [cmpR]
  | [], _ :: _ => by simp [cmpR]
  | _ :: _, [] => by simp [cmpR]
  | a :: l, b :: m => by
    have ih := @cmpR_zero l m
    have hz := @cmpV_zero a b
    simp only [cmpR]
    by_cases h : cmpV a b = 0
    · rw [if_pos h, ih, hz.1 h]
      simp
    · rw [if_neg h]
      constructor
      · intro g; exact absurd g h
      · intro g; exact absurd (hz.2 (List.cons.inj g).1) h
theorem cmpR_anti {r s : List ValV} (h : cmpR r s ≤ 0) (g : cmpR s r ≤ 0) : r = s := by
  have := cmpR_neg r s
  exact cmpR_zero.1 (by omega)
/-- A list of rows that rises. -/
def Rises (l : List (List ValV)) : Prop := l.Pairwise fun a b => cmpR a b ≤ 0
theorem rises_unique : ∀ (l m : List (List ValV)), l.Perm m → Rises l → Rises m → l = m
  | [], m, h, _, _ => (List.Perm.nil_eq h)
  | a :: l, [], h, _, _ => absurd h.length_eq (by simp)
  | a :: l, b :: m, h, hl, hm => by
    have ab : a = b := by
      have h1 : b ∈ a :: l := h.mem_iff.2 List.mem_cons_self
      have h2 : a ∈ b :: m := h.mem_iff.1 List.mem_cons_self
      rcases List.mem_cons.1 h1 with e | h1
      · exact e.symm
      · rcases List.mem_cons.1 h2 with e | h2
        · exact e
        · exact cmpR_anti ((List.pairwise_cons.1 hl).1 b h1) ((List.pairwise_cons.1 hm).1 a h2)
    subst ab
    rw [rises_unique l m (List.Perm.cons_inv h) (List.pairwise_cons.1 hl).2 (List.pairwise_cons.1 hm).2]
/-- How many rows stand ahead of one, from the front. -/
def placeF : List (List ValV) → List ValV → Nat
  | [], _ => 0
  | a :: l, r => if cmpR a r ≤ 0 then placeF l r + 1 else 0
def insF (l : List (List ValV)) (r : List ValV) : List (List ValV) := l.take (placeF l r) ++ r :: l.drop (placeF l r)
theorem insF_cons (a : List ValV) (l : List (List ValV)) (r : List ValV) : insF (a :: l) r = if cmpR a r ≤ 0 then a :: insF l r else r :: a :: l := by
  unfold insF
  simp only [placeF]
  by_cases h : cmpR a r ≤ 0
  · rw [if_pos h, if_pos h]; simp
  · rw [if_neg h, if_neg h]; simp
theorem insF_perm : ∀ (l : List (List ValV)) (r : List ValV), (insF l r).Perm (r :: l)
  | [], r => by simp [insF, placeF]
  | a :: l, r => by
    rw [insF_cons]
    split
    · exact ((insF_perm l r).cons a).trans (List.Perm.swap r a l)
    · exact List.Perm.refl _
theorem insF_rises : ∀ (l : List (List ValV)) (r : List ValV), Rises l → Rises (insF l r)
  | [], r, _ => by simp [insF, placeF, Rises]
  | a :: l, r, h => by
    have hp := List.pairwise_cons.1 h
    rw [insF_cons]
    split
    · rename_i hle
      refine List.pairwise_cons.2 ⟨fun b hb => ?_, insF_rises l r hp.2⟩
      rcases List.mem_cons.1 ((insF_perm l r).mem_iff.1 hb) with rfl | hb
      · exact hle
      · exact hp.1 b hb
    · rename_i hgt
      have hra : cmpR r a ≤ 0 := by have := cmpR_neg a r; omega
      refine List.pairwise_cons.2 ⟨fun b hb => ?_, h⟩
      rcases List.mem_cons.1 hb with rfl | hb
      · exact hra
      · exact cmpR_trans r a b hra (hp.1 b hb)
/-- The reference's Sorted. -/
def sortedF (l : List (List ValV)) : List (List ValV) := l.foldl insF []
theorem sorted_fold : ∀ (l acc : List (List ValV)), (l.foldl insF acc).Perm (acc ++ l) ∧ (Rises acc → Rises (l.foldl insF acc))
  | [], acc => by simp
  | a :: l, acc => by
    obtain ⟨h1, h2⟩ := sorted_fold l (insF acc a)
    refine ⟨?_, fun h => h2 (insF_rises acc a h)⟩
    refine h1.trans (((insF_perm acc a).append_right l).trans ?_)
    exact (List.perm_middle (l₁ := acc) (a := a) (l₂ := l)).symm
theorem sortedF_perm (l : List (List ValV)) : (sortedF l).Perm l := by simpa [sortedF] using (sorted_fold l []).1
theorem sortedF_rises (l : List (List ValV)) : Rises (sortedF l) := (sorted_fold l []).2 List.Pairwise.nil
/-- What rises and holds the same rows is the reference's. -/
theorem sorted_is {l s : List (List ValV)} (hp : s.Perm l) (hr : Rises s) : s = sortedF l := rises_unique s (sortedF l) (hp.trans (sortedF_perm l).symm) hr (sortedF_rises l)
theorem sorted_same {l m : List (List ValV)} : sortedF l = sortedF m ↔ l.Perm m :=
  ⟨fun h => ((sortedF_perm l).symm.trans (h ▸ List.Perm.refl _)).trans (sortedF_perm m), fun h => rises_unique _ _ (((sortedF_perm l).trans h).trans (sortedF_perm m).symm) (sortedF_rises l) (sortedF_rises m)⟩
/-- How often a row comes. -/
def timesF (l : List (List ValV)) (r : List ValV) : Nat := l.countP fun x => decide (cmpR x r = 0)
theorem times_perm {l m : List (List ValV)} (h : l.Perm m) (r : List ValV) : timesF l r = timesF m r := h.countP_eq _
theorem times_cons (a : List ValV) (l : List (List ValV)) (r : List ValV) : timesF (a :: l) r = timesF l r + if cmpR a r = 0 then 1 else 0 := by
  unfold timesF
  rw [List.countP_cons]
  by_cases h : cmpR a r = 0 <;> simp [h]
theorem perm_of_times : ∀ l m : List (List ValV), l.length = m.length → (∀ a ∈ l, timesF l a = timesF m a) → l.Perm m
  | [], m, h, _ => by
    obtain rfl : m = [] := List.eq_nil_of_length_eq_zero (by simpa using h.symm)
    exact List.Perm.refl _
  | a :: l, m, h, ht => by
    have h1 := ht a List.mem_cons_self
    rw [times_cons, if_pos (cmpR_refl a)] at h1
    have hpos : 0 < timesF m a := by omega
    obtain ⟨x, hx, hxa⟩ := List.countP_pos_iff.1 hpos
    obtain rfl := cmpR_zero.1 (of_decide_eq_true hxa)
    obtain ⟨s, t, rfl⟩ := List.append_of_mem hx
    have hp : (s ++ x :: t).Perm (x :: (s ++ t)) := List.perm_middle
    refine ((perm_of_times l (s ++ t) ?_ fun b hb => ?_).cons x).trans hp.symm
    · have := hp.length_eq
      simp at this h ⊢
      omega
    · have h2 := ht b (List.mem_cons_of_mem _ hb)
      rw [times_perm hp b, times_cons, times_cons] at h2
      omega
/-- Two lists are one bag just if each row of the one comes as often in both, and they are as long. -/
theorem bag_is {l m : List (List ValV)} : (l.length = m.length ∧ ∀ a ∈ l, timesF l a = timesF m a) ↔ sortedF l = sortedF m :=
  ⟨fun h => sorted_same.2 (perm_of_times l m h.1 h.2), fun h => ⟨(sorted_same.1 h).length_eq, fun a _ => times_perm (sorted_same.1 h) a⟩⟩
end Go.Proofs.YtobepbpiagclnaaDoor
namespace Go.Proofs.YtobepbpiagclnaaDoor
set_option linter.unusedVariables false
open Go.ChangeShapes Go.WideShapes Go.ChangeAt Go.RowKit

theorem TwoAt.rows {base g : Nat} {w : World} {m0 m1 : ListV} {r0 r1 : List ValV} (h : TwoAt base w g m0 m1 r0 r1) : RowsAt w w.heap.size (some ⟨g, 0, none⟩) 2 2 [r0, r1] := by
  obtain ⟨A', c', e, hN⟩ := nest_of_own (ls := [m0, m1]) (rows := [r0, r1]) (by simpa [listVal] using h.own) rfl (by
    intro i m r h1 h2
    match i with
    | 0 => simp at h1 h2; subst h1 h2; exact h.a0
    | 1 => simp at h1 h2; subst h1 h2; exact h.a1
    | i + 2 => simp at h1)
  injection e with e1 e2 e3
  subst e1 e3
  exact hN
theorem sort2_len (r0 r1 : List ValV) (h0 : r0.length ≤ 1048576) (h1 : r1.length ≤ 1048576) : (sort2 r0 r1).1.length ≤ 1048576 ∧ (sort2 r0 r1).2.length ≤ 1048576 := by
  unfold sort2
  split
  · exact ⟨h1, h0⟩
  · exact ⟨h0, h1⟩
set_option maxHeartbeats 2000000 in
theorem bag_c (A : Option Addr) (c : Nat) (r0 r1 : List ValV) (w : World) (h : RowsAt w w.heap.size A 2 c [r0, r1]) (h0 : r0.length ≤ 1048576) (h1 : r1.length ≤ 1048576) :
    Calls Tryd.prog 10 #[.slice A 2 c, .slice A 2 c] w fun e w' => e = .returned (.bool true) ∧ Below w.heap.size w w' := by
  have Q1 := hide (sorted_c A c r0 r1 w h h0 h1)
  have Q2 := hide (fun (W : World) (hW : Below w.heap.size w W) => sorted_c A c r0 r1 W ((h.below hW).more hW.size) h0 h1)
  clear h h0 h1
  generalize sort2 r0 r1 = s at *
  have hw0 : IntKind.i64.wrap 0 = 0 := by decide
  have hw1 : IntKind.i64.wrap 1 = 1 := by decide
  have hw2 : IntKind.i64.wrap 2 = 2 := by decide
  go_enter Tryd.func10, Tryd.ntmps10
  go_wp2_with fail
  refine Q1.out.mono ?_
  rintro e w1 ⟨m0, m1, rfl, hT, hb⟩
  have HT := hide hT
  have HB := hide hb
  clear hT hb
  go_wp2_with fail
  refine (Q2.out _ HB.out).mono ?_
  rintro e w2 ⟨p0, p1, rfl, hT, hb⟩
  have HP := hide hT
  have HT2 := hide (HT.out.kept hb)
  have HB2 := hide (HB.out.trans (hb.mono HB.out.size))
  clear hT hb HT HB
  obtain ⟨h0, h1, z0, z1⟩ := HT2.out.cells
  obtain ⟨k0, k1, y0, y1⟩ := HP.out.cells
  have Q3 := hide (fun (W : World) (hW : Below w2.heap.size w2 W) => orders_c m0.A p0.A m0.n m0.c p0.n p0.c s.1 s.1 W (HT2.out.a0.kept hW) (HP.out.a0.kept hW))
  have Q4 := hide (fun (W : World) (hW : Below w2.heap.size w2 W) => orders_c m1.A p1.A m1.n m1.c p1.n p1.c s.2 s.2 W (HT2.out.a1.kept hW) (HP.out.a1.kept hW))
  simp only [cmpR_refl] at Q3 Q4
  obtain ⟨A0, n0, c0⟩ := m0
  obtain ⟨A1, n1, c1⟩ := m1
  obtain ⟨A2, n2, c2⟩ := p0
  obtain ⟨A3, n3, c3⟩ := p1
  simp only at h0 h1 k0 k1 Q3 Q4
  clear HT2 HP z0 z1 y0 y1
  go_wp2_with fail
  refine wp_loop_rounds 4 ?_
  rw [rounds_succ]
  go_wp2_with fail
  refine wp_region_held_drew (S := (fun w' => Below w2.heap.size w2 w')) (by kernel_rfl) ((Below.refl _ _).drew) (fun hHeld => ?_)
  first | (refine wpAnyH_take (i := 0) (v := ?_) nth0 (by kernel_rfl) (by kernel_rfl) (by kernel_rfl) (fun _ _ _ h => h) (Or.inl ⟨by rfl, ?_⟩) hHeld ?_; rotate_left; focus (intro wS hSw; (have k0 := kept hSw k0; have h0 := kept hSw h0); go_simp; try with_reducible rfl; done)) | (refine wpAnyH_take (i := 0) (v := undef) nth0 (by kernel_rfl) (by kernel_rfl) (by kernel_rfl) (fun _ _ _ h => h) (Or.inr ⟨by rfl, rfl⟩) hHeld ?_)
  (try simp only [Act.put]); (try simp only [List.setIfInBounds_toArray]); (try simp only [List.set_cons_succ]); (try simp only [List.set_cons_zero])
  first | (refine wpAnyH_take (i := 1) (v := ?_) nth1 (by kernel_rfl) (by kernel_rfl) (by kernel_rfl) (fun _ _ _ h => h) (Or.inl ⟨by rfl, ?_⟩) hHeld ?_; rotate_left; focus (intro wS hSw; (have k0 := kept hSw k0; have h0 := kept hSw h0); go_simp; try with_reducible rfl; done)) | (refine wpAnyH_take (i := 1) (v := undef) nth1 (by kernel_rfl) (by kernel_rfl) (by kernel_rfl) (fun _ _ _ h => h) (Or.inr ⟨by rfl, rfl⟩) hHeld ?_)
  (try simp only [Act.put]); (try simp only [List.setIfInBounds_toArray]); (try simp only [List.set_cons_succ]); (try simp only [List.set_cons_zero])
  first | (refine wpAnyH_take (i := 2) (v := ?_) nth2 (by kernel_rfl) (by kernel_rfl) (by kernel_rfl) (fun _ _ _ h => h) (Or.inl ⟨by rfl, ?_⟩) hHeld ?_; rotate_left; focus (intro wS hSw; (have k0 := kept hSw k0; have h0 := kept hSw h0); go_simp; try with_reducible rfl; done)) | (refine wpAnyH_take (i := 2) (v := undef) nth2 (by kernel_rfl) (by kernel_rfl) (by kernel_rfl) (fun _ _ _ h => h) (Or.inr ⟨by rfl, rfl⟩) hHeld ?_)
  (try simp only [Act.put]); (try simp only [List.setIfInBounds_toArray]); (try simp only [List.set_cons_succ]); (try simp only [List.set_cons_zero])
  first | (refine wpAnyH_take (i := 3) (v := ?_) nth3 (by kernel_rfl) (by kernel_rfl) (by kernel_rfl) (fun _ _ _ h => h) (Or.inl ⟨by rfl, ?_⟩) hHeld ?_; rotate_left; focus (intro wS hSw; (have k0 := kept hSw k0; have h0 := kept hSw h0); go_simp; try with_reducible rfl; done)) | (refine wpAnyH_take (i := 3) (v := undef) nth3 (by kernel_rfl) (by kernel_rfl) (by kernel_rfl) (fun _ _ _ h => h) (Or.inr ⟨by rfl, rfl⟩) hHeld ?_)
  (try simp only [Act.put]); (try simp only [List.setIfInBounds_toArray]); (try simp only [List.set_cons_succ]); (try simp only [List.set_cons_zero])
  first | (refine wpAnyH_take (i := 4) (v := ?_) nth4 (by kernel_rfl) (by kernel_rfl) (by kernel_rfl) (fun _ _ _ h => h) (Or.inl ⟨by rfl, ?_⟩) hHeld ?_; rotate_left; focus (intro wS hSw; (have k0 := kept hSw k0; have h0 := kept hSw h0); go_simp; try with_reducible rfl; done)) | (refine wpAnyH_take (i := 4) (v := undef) nth4 (by kernel_rfl) (by kernel_rfl) (by kernel_rfl) (fun _ _ _ h => h) (Or.inr ⟨by rfl, rfl⟩) hHeld ?_)
  (try simp only [Act.put]); (try simp only [List.setIfInBounds_toArray]); (try simp only [List.set_cons_succ]); (try simp only [List.set_cons_zero])
  first | (refine wpAnyH_take (i := 5) (v := ?_) nth5 (by kernel_rfl) (by kernel_rfl) (by kernel_rfl) (fun _ _ _ h => h) (Or.inl ⟨by rfl, ?_⟩) hHeld ?_; rotate_left; focus (intro wS hSw; (have k0 := kept hSw k0; have h0 := kept hSw h0); go_simp; try with_reducible rfl; done)) | (refine wpAnyH_take (i := 5) (v := undef) nth5 (by kernel_rfl) (by kernel_rfl) (by kernel_rfl) (fun _ _ _ h => h) (Or.inr ⟨by rfl, rfl⟩) hHeld ?_)
  (try simp only [Act.put]); (try simp only [List.setIfInBounds_toArray]); (try simp only [List.set_cons_succ]); (try simp only [List.set_cons_zero])
  first | (refine wpAnyH_take (i := 6) (v := ?_) nth6 (by kernel_rfl) (by kernel_rfl) (by kernel_rfl) (fun _ _ _ h => h) (Or.inl ⟨by rfl, ?_⟩) hHeld ?_; rotate_left; focus (intro wS hSw; (have k0 := kept hSw k0; have h0 := kept hSw h0); go_simp; try with_reducible rfl; done)) | (refine wpAnyH_take (i := 6) (v := undef) nth6 (by kernel_rfl) (by kernel_rfl) (by kernel_rfl) (fun _ _ _ h => h) (Or.inr ⟨by rfl, rfl⟩) hHeld ?_)
  (try simp only [Act.put]); (try simp only [List.setIfInBounds_toArray]); (try simp only [List.set_cons_succ]); (try simp only [List.set_cons_zero])
  first | (refine wpAnyH_take (i := 7) (v := ?_) nth7 (by kernel_rfl) (by kernel_rfl) (by kernel_rfl) (fun _ _ _ h => h) (Or.inl ⟨by rfl, ?_⟩) hHeld ?_; rotate_left; focus (intro wS hSw; (have k0 := kept hSw k0; have h0 := kept hSw h0); go_simp; try with_reducible rfl; done)) | (refine wpAnyH_take (i := 7) (v := undef) nth7 (by kernel_rfl) (by kernel_rfl) (by kernel_rfl) (fun _ _ _ h => h) (Or.inr ⟨by rfl, rfl⟩) hHeld ?_)
  (try simp only [Act.put]); (try simp only [List.setIfInBounds_toArray]); (try simp only [List.set_cons_succ]); (try simp only [List.set_cons_zero])
  refine wpAnyH_ready (rs := [8]) (by kernel_rfl) (by simp) ?_
  refine AllReadyH.cons nth8 (fun K hK => ?_) AllReadyH.nil
  go_simp
  (go_at_call 6; refine (Q3.out _ hHeld).mono ?_; rintro e w' ⟨rfl, hb⟩)
  refine hK.out _ _ (Bel.then hHeld hb) (fun hHeld => ?_)
  clear hK K
  (try simp only [Act.put]); (try simp only [List.setIfInBounds_toArray]); (try simp only [List.set_cons_succ]); (try simp only [List.set_cons_zero])
  first | (refine wpAnyH_take (i := 9) (v := ?_) nth9 (by kernel_rfl) (by kernel_rfl) (by kernel_rfl) (fun _ _ _ h => h) (Or.inl ⟨by rfl, ?_⟩) hHeld ?_; rotate_left; focus (intro wS hSw; (have k0 := kept hSw k0; have h0 := kept hSw h0); go_simp; try with_reducible rfl; done)) | (refine wpAnyH_take (i := 9) (v := undef) nth9 (by kernel_rfl) (by kernel_rfl) (by kernel_rfl) (fun _ _ _ h => h) (Or.inr ⟨by rfl, rfl⟩) hHeld ?_)
  (try simp only [Act.put]); (try simp only [List.setIfInBounds_toArray]); (try simp only [List.set_cons_succ]); (try simp only [List.set_cons_zero])
  refine wpAnyH_done (by kernel_rfl) ?_ _
  have HC := hHeld
  clear hHeld
  go_wp2_with fail
  rw [rounds_succ]
  go_wp2_with fail
  refine wp_region_held_drew (S := (fun w' => Below w2.heap.size w2 w')) (by kernel_rfl) (HC.drew) (fun hHeld => ?_)
  first | (refine wpAnyH_take (i := 0) (v := ?_) nth0 (by kernel_rfl) (by kernel_rfl) (by kernel_rfl) (fun _ _ _ h => h) (Or.inl ⟨by rfl, ?_⟩) hHeld ?_; rotate_left; focus (intro wS hSw; (have k1 := kept hSw k1; have h1 := kept hSw h1); go_simp; try with_reducible rfl; done)) | (refine wpAnyH_take (i := 0) (v := undef) nth0 (by kernel_rfl) (by kernel_rfl) (by kernel_rfl) (fun _ _ _ h => h) (Or.inr ⟨by rfl, rfl⟩) hHeld ?_)
  (try simp only [Act.put]); (try simp only [List.setIfInBounds_toArray]); (try simp only [List.set_cons_succ]); (try simp only [List.set_cons_zero])
  first | (refine wpAnyH_take (i := 1) (v := ?_) nth1 (by kernel_rfl) (by kernel_rfl) (by kernel_rfl) (fun _ _ _ h => h) (Or.inl ⟨by rfl, ?_⟩) hHeld ?_; rotate_left; focus (intro wS hSw; (have k1 := kept hSw k1; have h1 := kept hSw h1); go_simp; try with_reducible rfl; done)) | (refine wpAnyH_take (i := 1) (v := undef) nth1 (by kernel_rfl) (by kernel_rfl) (by kernel_rfl) (fun _ _ _ h => h) (Or.inr ⟨by rfl, rfl⟩) hHeld ?_)
  (try simp only [Act.put]); (try simp only [List.setIfInBounds_toArray]); (try simp only [List.set_cons_succ]); (try simp only [List.set_cons_zero])
  first | (refine wpAnyH_take (i := 2) (v := ?_) nth2 (by kernel_rfl) (by kernel_rfl) (by kernel_rfl) (fun _ _ _ h => h) (Or.inl ⟨by rfl, ?_⟩) hHeld ?_; rotate_left; focus (intro wS hSw; (have k1 := kept hSw k1; have h1 := kept hSw h1); go_simp; try with_reducible rfl; done)) | (refine wpAnyH_take (i := 2) (v := undef) nth2 (by kernel_rfl) (by kernel_rfl) (by kernel_rfl) (fun _ _ _ h => h) (Or.inr ⟨by rfl, rfl⟩) hHeld ?_)
  (try simp only [Act.put]); (try simp only [List.setIfInBounds_toArray]); (try simp only [List.set_cons_succ]); (try simp only [List.set_cons_zero])
  first | (refine wpAnyH_take (i := 3) (v := ?_) nth3 (by kernel_rfl) (by kernel_rfl) (by kernel_rfl) (fun _ _ _ h => h) (Or.inl ⟨by rfl, ?_⟩) hHeld ?_; rotate_left; focus (intro wS hSw; (have k1 := kept hSw k1; have h1 := kept hSw h1); go_simp; try with_reducible rfl; done)) | (refine wpAnyH_take (i := 3) (v := undef) nth3 (by kernel_rfl) (by kernel_rfl) (by kernel_rfl) (fun _ _ _ h => h) (Or.inr ⟨by rfl, rfl⟩) hHeld ?_)
  (try simp only [Act.put]); (try simp only [List.setIfInBounds_toArray]); (try simp only [List.set_cons_succ]); (try simp only [List.set_cons_zero])
  first | (refine wpAnyH_take (i := 4) (v := ?_) nth4 (by kernel_rfl) (by kernel_rfl) (by kernel_rfl) (fun _ _ _ h => h) (Or.inl ⟨by rfl, ?_⟩) hHeld ?_; rotate_left; focus (intro wS hSw; (have k1 := kept hSw k1; have h1 := kept hSw h1); go_simp; try with_reducible rfl; done)) | (refine wpAnyH_take (i := 4) (v := undef) nth4 (by kernel_rfl) (by kernel_rfl) (by kernel_rfl) (fun _ _ _ h => h) (Or.inr ⟨by rfl, rfl⟩) hHeld ?_)
  (try simp only [Act.put]); (try simp only [List.setIfInBounds_toArray]); (try simp only [List.set_cons_succ]); (try simp only [List.set_cons_zero])
  first | (refine wpAnyH_take (i := 5) (v := ?_) nth5 (by kernel_rfl) (by kernel_rfl) (by kernel_rfl) (fun _ _ _ h => h) (Or.inl ⟨by rfl, ?_⟩) hHeld ?_; rotate_left; focus (intro wS hSw; (have k1 := kept hSw k1; have h1 := kept hSw h1); go_simp; try with_reducible rfl; done)) | (refine wpAnyH_take (i := 5) (v := undef) nth5 (by kernel_rfl) (by kernel_rfl) (by kernel_rfl) (fun _ _ _ h => h) (Or.inr ⟨by rfl, rfl⟩) hHeld ?_)
  (try simp only [Act.put]); (try simp only [List.setIfInBounds_toArray]); (try simp only [List.set_cons_succ]); (try simp only [List.set_cons_zero])
  first | (refine wpAnyH_take (i := 6) (v := ?_) nth6 (by kernel_rfl) (by kernel_rfl) (by kernel_rfl) (fun _ _ _ h => h) (Or.inl ⟨by rfl, ?_⟩) hHeld ?_; rotate_left; focus (intro wS hSw; (have k1 := kept hSw k1; have h1 := kept hSw h1); go_simp; try with_reducible rfl; done)) | (refine wpAnyH_take (i := 6) (v := undef) nth6 (by kernel_rfl) (by kernel_rfl) (by kernel_rfl) (fun _ _ _ h => h) (Or.inr ⟨by rfl, rfl⟩) hHeld ?_)
  (try simp only [Act.put]); (try simp only [List.setIfInBounds_toArray]); (try simp only [List.set_cons_succ]); (try simp only [List.set_cons_zero])
  first | (refine wpAnyH_take (i := 7) (v := ?_) nth7 (by kernel_rfl) (by kernel_rfl) (by kernel_rfl) (fun _ _ _ h => h) (Or.inl ⟨by rfl, ?_⟩) hHeld ?_; rotate_left; focus (intro wS hSw; (have k1 := kept hSw k1; have h1 := kept hSw h1); go_simp; try with_reducible rfl; done)) | (refine wpAnyH_take (i := 7) (v := undef) nth7 (by kernel_rfl) (by kernel_rfl) (by kernel_rfl) (fun _ _ _ h => h) (Or.inr ⟨by rfl, rfl⟩) hHeld ?_)
  (try simp only [Act.put]); (try simp only [List.setIfInBounds_toArray]); (try simp only [List.set_cons_succ]); (try simp only [List.set_cons_zero])
  refine wpAnyH_ready (rs := [8]) (by kernel_rfl) (by simp) ?_
  refine AllReadyH.cons nth8 (fun K hK => ?_) AllReadyH.nil
  go_simp
  (go_at_call 6; refine (Q4.out _ hHeld).mono ?_; rintro e w' ⟨rfl, hb⟩)
  refine hK.out _ _ (Bel.then hHeld hb) (fun hHeld => ?_)
  clear hK K
  (try simp only [Act.put]); (try simp only [List.setIfInBounds_toArray]); (try simp only [List.set_cons_succ]); (try simp only [List.set_cons_zero])
  first | (refine wpAnyH_take (i := 9) (v := ?_) nth9 (by kernel_rfl) (by kernel_rfl) (by kernel_rfl) (fun _ _ _ h => h) (Or.inl ⟨by rfl, ?_⟩) hHeld ?_; rotate_left; focus (intro wS hSw; (have k1 := kept hSw k1; have h1 := kept hSw h1); go_simp; try with_reducible rfl; done)) | (refine wpAnyH_take (i := 9) (v := undef) nth9 (by kernel_rfl) (by kernel_rfl) (by kernel_rfl) (fun _ _ _ h => h) (Or.inr ⟨by rfl, rfl⟩) hHeld ?_)
  (try simp only [Act.put]); (try simp only [List.setIfInBounds_toArray]); (try simp only [List.set_cons_succ]); (try simp only [List.set_cons_zero])
  refine wpAnyH_done (by kernel_rfl) ?_ _
  go_wp2_with fail
  rw [rounds_succ]
  go_wp2_with fail
  go_ret
  exact ⟨rfl, HB2.out.trans (hHeld.mono HB2.out.size)⟩
end Go.Proofs.YtobepbpiagclnaaDoor
namespace Go.Proofs.YtobepbpiagclnaaDoor
set_option linter.unusedVariables false
open Go.ChangeShapes Go.WideShapes Go.ChangeAt Go.RowKit

theorem num_c (n : Int) (w : World) : Calls Tryd.prog 17 #[.int .i64 n] w fun e w' => e = .returned (valAgg ⟨2, n, .empty⟩) ∧ Below w.heap.size w w' := by
  go_enter Tryd.func17, Tryd.ntmps17
  go_wp2
  exact bodyPost_ret (v := valAgg ⟨2, n, .empty⟩) (by simp [results, Tryd.results17, go_sem, valAgg] <;> rfl) rfl ⟨rfl, by go_grown⟩
theorem str_c (s : ByteArray) (w : World) : Calls Tryd.prog 19 #[.string s] w fun e w' => e = .returned (valAgg ⟨3, 0, s⟩) ∧ Below w.heap.size w w' := by
  go_enter Tryd.func19, Tryd.ntmps19
  go_wp2
  exact bodyPost_ret (v := valAgg ⟨3, 0, s⟩) (by simp [results, Tryd.results19, go_sem, valAgg] <;> rfl) rfl ⟨rfl, by go_grown⟩
theorem bool_c (b : Bool) (w : World) : Calls Tryd.prog 21 #[.bool b] w fun e w' => e = .returned (valAgg ⟨1, if b then 1 else 0, .empty⟩) ∧ Below w.heap.size w w' := by
  cases b
  · go_enter Tryd.func21, Tryd.ntmps21
    go_wp2
    exact bodyPost_ret (v := valAgg ⟨1, 0, .empty⟩) (by simp [results, Tryd.results21, go_sem, valAgg] <;> rfl) rfl ⟨rfl, by go_grown⟩
  · go_enter Tryd.func21, Tryd.ntmps21
    go_wp2
    exact bodyPost_ret (v := valAgg ⟨1, 1, .empty⟩) (by simp [results, Tryd.results21, go_sem, valAgg] <;> rfl) rfl ⟨rfl, by go_grown⟩
end Go.Proofs.YtobepbpiagclnaaDoor
namespace Go.Proofs.YtobepbpiagclnaaDoor
set_option linter.unusedVariables false
open Go.ChangeShapes Go.WideShapes Go.ChangeAt Go.RowKit

def awNum (n : Int) : ValV := ⟨2, n, { data := #[] }⟩
theorem aw_comp : compV (awNum 2) (awNum 1) = (1, true) := by decide +kernel
theorem aw_comp0 : compV ⟨0, 0, { data := #[] }⟩ ⟨0, 0, { data := #[] }⟩ = (0, false) := by decide +kernel
theorem aw_sort : sort2 [awNum 2] [awNum 1] = ([awNum 1], [awNum 2]) := by
  have : cmpR [awNum 1] [awNum 2] = -1 := by decide +kernel
  unfold sort2
  rw [this]
  rfl
theorem aw_ords : cmpR [awNum 1] [awNum 2] = -1 := by decide +kernel
theorem aw_text : textV ⟨3, 0, { data := #[97, 39] }⟩ = { data := #[39, 97, 39, 39, 39] } := by decide +kernel
theorem aw_right : rightV 1 1 { data := #[] } = true := by decide +kernel
theorem GivesTwo.form {w w' : World} {s : List ValV × List ValV} {e : Ending} (h : GivesTwo w s e w') : ∃ base g m0 m1, e = .returned (.slice (some ⟨g, 0, none⟩) 2 2) ∧ TwoAt base w' g m0 m1 s.1 s.2 ∧ Below w.heap.size w w' :=
  let ⟨m0, m1, h1, h2, h3⟩ := h
  ⟨_, _, m0, m1, h1, h2, h3⟩
/-- A row of one value that a literal makes. -/
theorem row_lit1 (w : World) (v : ValV) (t : TypeId) : RowAt (w.alloc (.cells #[.int .i64 v.kind, .int .i64 v.num, .string v.str] t)) (w.alloc (.cells #[.int .i64 v.kind, .int .i64 v.num, .string v.str] t)).heap.size (some ⟨w.heap.size, 0, none⟩) 1 1 [v] :=
  sl_lit w _ t rfl valCells_len rfl (by simp [maxLen])
theorem row_litN (w : World) (n : Int) (t : TypeId) : RowAt (w.alloc (.cells #[.int .i64 2, .int .i64 n, .string { data := #[] }] t)) (w.alloc (.cells #[.int .i64 2, .int .i64 n, .string { data := #[] }] t)).heap.size (some ⟨w.heap.size, 0, none⟩) 1 1 [awNum n] := row_lit1 w (awNum n) t
theorem rows_lit2 (w : World) (A B : Option Addr) (r s : List ValV) (n m c d : Nat) (hA : RowAt w w.heap.size A n c r) (hB : RowAt w w.heap.size B m d s) (t : TypeId) : RowsAt (w.alloc (.cells #[.slice A n c, .slice B m d] t)) (w.alloc (.cells #[.slice A n c, .slice B m d] t)).heap.size (some ⟨w.heap.size, 0, none⟩) 2 2 [r, s] := by
  refine ⟨rfl, Nat.le_refl _, by simp [maxLen], by simp, [⟨A, n, c⟩, ⟨B, m, d⟩], rfl, ⟨by simp [listVal], ?_⟩, ?_⟩
  · rw [World.size_alloc]
    exact cells_lit w #[.slice A n c, .slice B m d] t
  · intro i m' xs h1 h2
    match i with
    | 0 => simp at h1 h2; subst h1 h2; exact hA.kept (Bel.one w _)
    | 1 => simp at h1 h2; subst h1 h2; exact hB.kept (Bel.one w _)
    | i + 2 => simp at h1
set_option maxRecDepth 100000 in
set_option maxHeartbeats 4000000 in
theorem awake_c (w : World) (hW : ValW w) : Calls Tryd.prog 7 #[] w fun e w' => e = .returned (.bool true) ∧ Below w.heap.size w w' := by
  have HW := hide hW
  clear hW
  have q1 : ∀ (n : Int) (W : World), Calls Tryd.prog 17 #[.int .i64 n] W fun e w' => e = .returned (.agg #[.int .i64 2, .int .i64 n, .string { data := #[] }]) ∧ Below W.heap.size W w' := fun n W => num_c n W
  have q2 := fun W => compare_c (awNum 2) (awNum 1) W
  have q3 := fun W => compare_c ⟨0, 0, { data := #[] }⟩ ⟨0, 0, { data := #[] }⟩ W
  rw [aw_comp] at q2
  rw [aw_comp0] at q3
  unfold valAgg awNum at q2
  unfold valAgg at q3
  simp only at q2 q3
  have Q1 := hide q1
  have Q2 := hide q2
  have Q3 := hide q3
  clear q1 q2 q3
  go_enter Tryd.func7, Tryd.ntmps7
  go_wp2_with fail
  refine (Q1.out _ _).mono ?_
  rintro e w1 ⟨rfl, hb⟩
  have HB1 := hide hb
  clear hb
  go_wp2_with fail
  refine (Q1.out _ _).mono ?_
  rintro e w2 ⟨rfl, hb⟩
  have HB2 := hide (Bel.then HB1.out hb)
  clear hb HB1
  go_wp2_with fail
  refine (Q2.out _).mono ?_
  rintro e w3 ⟨rfl, hb⟩
  have HB3 := hide (Bel.then HB2.out hb)
  clear hb HB2
  go_wp2_with fail
  refine (Q3.out _).mono ?_
  rintro e w4 ⟨rfl, hb⟩
  have HB4 := hide (Bel.then HB3.out hb)
  clear hb HB3
  go_wp2_with fail
  refine (Q1.out _ _).mono ?_
  rintro e w5 ⟨rfl, hb⟩
  have HB5 := hide (Bel.then HB4.out hb)
  clear hb HB4
  have HR5 := hide (row_litN w5 2 33)
  have HB6 := hide (Bel.alloc HB5.out (.cells #[.int .i64 2, .int .i64 2, .string { data := #[] }] 33))
  clear HB5
  go_wp2_with fail
  refine (Q1.out _ _).mono ?_
  rintro e w6 ⟨rfl, hb⟩
  have HR6 := hide ((HR5.out.kept hb).kept (Bel.one w6 (.cells #[.int .i64 2, .int .i64 1, .string { data := #[] }] 33)))
  have HB7 := hide (Bel.alloc (Bel.then HB6.out hb) (.cells #[.int .i64 2, .int .i64 1, .string { data := #[] }] 33))
  have HS6 := hide (row_litN w6 1 33)
  clear hb HB6 HR5
  go_wp2_with fail
  have Q4 := hide (sorted_c _ _ _ _ _ (rows_lit2 _ _ _ _ _ _ _ _ _ HR6.out HS6.out 26) (by simp) (by simp))
  rw [aw_sort] at Q4
  simp only [World.size_alloc] at Q4
  have HB8 := hide (Bel.alloc HB7.out (.cells #[.slice (some ⟨w5.heap.size, 0, none⟩) 1 1, .slice (some ⟨w6.heap.size, 0, none⟩) 1 1] 26))
  clear HR6 HS6 HB7
  refine Q4.out.mono ?_
  intro e w7 hT
  obtain ⟨base, g, m0, m1, rfl, hT, hb⟩ := hT.form
  have HT := hide hT
  have HB9 := hide (Bel.then HB8.out hb)
  clear hT hb HB8 Q4
  go_wp2_with fail
  have HW7 := hide (HW.out.keep HB9.out)
  obtain ⟨h0, h1, z0, z1⟩ := HT.out.cells
  have QO := hide (fun (W : World) (hW : Below w7.heap.size w7 W) => orders_c m0.A m1.A m0.n m0.c m1.n m1.c _ _ W (HT.out.a0.kept hW) (HT.out.a1.kept hW))
  have QB := hide (fun (W : World) (hW : Below w7.heap.size w7 W) => bag_c (some ⟨g, 0, none⟩) 2 _ _ W ((HT.out.kept hW).rows) (by simp) (by simp))
  rw [aw_ords] at QO
  obtain ⟨A0, n0, c0⟩ := m0
  obtain ⟨A1, n1, c1⟩ := m1
  simp only at h0 h1 QO
  have QS : Hid (∀ (W : World), Calls Tryd.prog 19 #[.string { data := #[97, 39] }] W fun e w' => e = .returned (.agg #[.int .i64 3, .int .i64 0, .string { data := #[97, 39] }]) ∧ Below W.heap.size W w') := fun W => str_c _ W
  have QT := hide (fun (W : World) (hW : Below w7.heap.size w7 W) => vtext_c ⟨3, 0, { data := #[97, 39] }⟩ W (HW7.out.keep hW) (by simp) (by decide))
  rw [aw_text] at QT
  unfold valAgg at QT
  simp only at QT
  have QL : Hid (∀ (W : World), Calls Tryd.prog 21 #[.bool true] W fun e w' => e = .returned (.agg #[.int .i64 1, .int .i64 1, .string { data := #[] }]) ∧ Below W.heap.size W w') := fun W => bool_c true W
  have QR := hide (fun (W : World) => right_c 1 1 { data := #[] } W (by decide))
  rw [aw_right] at QR
  clear Q1 Q2 Q3 HW HW7 HT z0 z1
  refine wp_region_held_drew (S := (fun w' => Below w7.heap.size w7 w')) (by kernel_rfl) ((Below.refl _ _).drew) (fun hHeld => ?_)
  first | (refine wpAnyH_take (i := 0) (v := ?_) nth0 (by kernel_rfl) (by kernel_rfl) (by kernel_rfl) (fun _ _ _ h => h) (Or.inl ⟨by rfl, ?_⟩) hHeld ?_; rotate_left; focus (intro wS hSw; (have k0 := kept hSw h0; have k1 := kept hSw h1); go_simp; try with_reducible rfl; done)) | (refine wpAnyH_take (i := 0) (v := undef) nth0 (by kernel_rfl) (by kernel_rfl) (by kernel_rfl) (fun _ _ _ h => h) (Or.inr ⟨by rfl, rfl⟩) hHeld ?_)
  (try simp only [Act.put]); (try simp only [List.setIfInBounds_toArray]); (try simp only [List.set_cons_succ]); (try simp only [List.set_cons_zero])
  first | (refine wpAnyH_take (i := 1) (v := ?_) nth1 (by kernel_rfl) (by kernel_rfl) (by kernel_rfl) (fun _ _ _ h => h) (Or.inl ⟨by rfl, ?_⟩) hHeld ?_; rotate_left; focus (intro wS hSw; (have k0 := kept hSw h0; have k1 := kept hSw h1); go_simp; try with_reducible rfl; done)) | (refine wpAnyH_take (i := 1) (v := undef) nth1 (by kernel_rfl) (by kernel_rfl) (by kernel_rfl) (fun _ _ _ h => h) (Or.inr ⟨by rfl, rfl⟩) hHeld ?_)
  (try simp only [Act.put]); (try simp only [List.setIfInBounds_toArray]); (try simp only [List.set_cons_succ]); (try simp only [List.set_cons_zero])
  first | (refine wpAnyH_take (i := 2) (v := ?_) nth2 (by kernel_rfl) (by kernel_rfl) (by kernel_rfl) (fun _ _ _ h => h) (Or.inl ⟨by rfl, ?_⟩) hHeld ?_; rotate_left; focus (intro wS hSw; (have k0 := kept hSw h0; have k1 := kept hSw h1); go_simp; try with_reducible rfl; done)) | (refine wpAnyH_take (i := 2) (v := undef) nth2 (by kernel_rfl) (by kernel_rfl) (by kernel_rfl) (fun _ _ _ h => h) (Or.inr ⟨by rfl, rfl⟩) hHeld ?_)
  (try simp only [Act.put]); (try simp only [List.setIfInBounds_toArray]); (try simp only [List.set_cons_succ]); (try simp only [List.set_cons_zero])
  first | (refine wpAnyH_take (i := 3) (v := ?_) nth3 (by kernel_rfl) (by kernel_rfl) (by kernel_rfl) (fun _ _ _ h => h) (Or.inl ⟨by rfl, ?_⟩) hHeld ?_; rotate_left; focus (intro wS hSw; (have k0 := kept hSw h0; have k1 := kept hSw h1); go_simp; try with_reducible rfl; done)) | (refine wpAnyH_take (i := 3) (v := undef) nth3 (by kernel_rfl) (by kernel_rfl) (by kernel_rfl) (fun _ _ _ h => h) (Or.inr ⟨by rfl, rfl⟩) hHeld ?_)
  (try simp only [Act.put]); (try simp only [List.setIfInBounds_toArray]); (try simp only [List.set_cons_succ]); (try simp only [List.set_cons_zero])
  first | (refine wpAnyH_take (i := 4) (v := ?_) nth4 (by kernel_rfl) (by kernel_rfl) (by kernel_rfl) (fun _ _ _ h => h) (Or.inl ⟨by rfl, ?_⟩) hHeld ?_; rotate_left; focus (intro wS hSw; (have k0 := kept hSw h0; have k1 := kept hSw h1); go_simp; try with_reducible rfl; done)) | (refine wpAnyH_take (i := 4) (v := undef) nth4 (by kernel_rfl) (by kernel_rfl) (by kernel_rfl) (fun _ _ _ h => h) (Or.inr ⟨by rfl, rfl⟩) hHeld ?_)
  (try simp only [Act.put]); (try simp only [List.setIfInBounds_toArray]); (try simp only [List.set_cons_succ]); (try simp only [List.set_cons_zero])
  first | (refine wpAnyH_take (i := 5) (v := ?_) nth5 (by kernel_rfl) (by kernel_rfl) (by kernel_rfl) (fun _ _ _ h => h) (Or.inl ⟨by rfl, ?_⟩) hHeld ?_; rotate_left; focus (intro wS hSw; (have k0 := kept hSw h0; have k1 := kept hSw h1); go_simp; try with_reducible rfl; done)) | (refine wpAnyH_take (i := 5) (v := undef) nth5 (by kernel_rfl) (by kernel_rfl) (by kernel_rfl) (fun _ _ _ h => h) (Or.inr ⟨by rfl, rfl⟩) hHeld ?_)
  (try simp only [Act.put]); (try simp only [List.setIfInBounds_toArray]); (try simp only [List.set_cons_succ]); (try simp only [List.set_cons_zero])
  first | (refine wpAnyH_take (i := 6) (v := ?_) nth6 (by kernel_rfl) (by kernel_rfl) (by kernel_rfl) (fun _ _ _ h => h) (Or.inl ⟨by rfl, ?_⟩) hHeld ?_; rotate_left; focus (intro wS hSw; (have k0 := kept hSw h0; have k1 := kept hSw h1); go_simp; try with_reducible rfl; done)) | (refine wpAnyH_take (i := 6) (v := undef) nth6 (by kernel_rfl) (by kernel_rfl) (by kernel_rfl) (fun _ _ _ h => h) (Or.inr ⟨by rfl, rfl⟩) hHeld ?_)
  (try simp only [Act.put]); (try simp only [List.setIfInBounds_toArray]); (try simp only [List.set_cons_succ]); (try simp only [List.set_cons_zero])
  first | (refine wpAnyH_take (i := 7) (v := ?_) nth7 (by kernel_rfl) (by kernel_rfl) (by kernel_rfl) (fun _ _ _ h => h) (Or.inl ⟨by rfl, ?_⟩) hHeld ?_; rotate_left; focus (intro wS hSw; (have k0 := kept hSw h0; have k1 := kept hSw h1); go_simp; try with_reducible rfl; done)) | (refine wpAnyH_take (i := 7) (v := undef) nth7 (by kernel_rfl) (by kernel_rfl) (by kernel_rfl) (fun _ _ _ h => h) (Or.inr ⟨by rfl, rfl⟩) hHeld ?_)
  (try simp only [Act.put]); (try simp only [List.setIfInBounds_toArray]); (try simp only [List.set_cons_succ]); (try simp only [List.set_cons_zero])
  first | (refine wpAnyH_take (i := 8) (v := ?_) nth8 (by kernel_rfl) (by kernel_rfl) (by kernel_rfl) (fun _ _ _ h => h) (Or.inl ⟨by rfl, ?_⟩) hHeld ?_; rotate_left; focus (intro wS hSw; (have k0 := kept hSw h0; have k1 := kept hSw h1); go_simp; try with_reducible rfl; done)) | (refine wpAnyH_take (i := 8) (v := undef) nth8 (by kernel_rfl) (by kernel_rfl) (by kernel_rfl) (fun _ _ _ h => h) (Or.inr ⟨by rfl, rfl⟩) hHeld ?_)
  (try simp only [Act.put]); (try simp only [List.setIfInBounds_toArray]); (try simp only [List.set_cons_succ]); (try simp only [List.set_cons_zero])
  first | (refine wpAnyH_take (i := 9) (v := ?_) nth9 (by kernel_rfl) (by kernel_rfl) (by kernel_rfl) (fun _ _ _ h => h) (Or.inl ⟨by rfl, ?_⟩) hHeld ?_; rotate_left; focus (intro wS hSw; (have k0 := kept hSw h0; have k1 := kept hSw h1); go_simp; try with_reducible rfl; done)) | (refine wpAnyH_take (i := 9) (v := undef) nth9 (by kernel_rfl) (by kernel_rfl) (by kernel_rfl) (fun _ _ _ h => h) (Or.inr ⟨by rfl, rfl⟩) hHeld ?_)
  (try simp only [Act.put]); (try simp only [List.setIfInBounds_toArray]); (try simp only [List.set_cons_succ]); (try simp only [List.set_cons_zero])
  first | (refine wpAnyH_take (i := 10) (v := ?_) nth10 (by kernel_rfl) (by kernel_rfl) (by kernel_rfl) (fun _ _ _ h => h) (Or.inl ⟨by rfl, ?_⟩) hHeld ?_; rotate_left; focus (intro wS hSw; (have k0 := kept hSw h0; have k1 := kept hSw h1); go_simp; try with_reducible rfl; done)) | (refine wpAnyH_take (i := 10) (v := undef) nth10 (by kernel_rfl) (by kernel_rfl) (by kernel_rfl) (fun _ _ _ h => h) (Or.inr ⟨by rfl, rfl⟩) hHeld ?_)
  (try simp only [Act.put]); (try simp only [List.setIfInBounds_toArray]); (try simp only [List.set_cons_succ]); (try simp only [List.set_cons_zero])
  first | (refine wpAnyH_take (i := 11) (v := ?_) nth11 (by kernel_rfl) (by kernel_rfl) (by kernel_rfl) (fun _ _ _ h => h) (Or.inl ⟨by rfl, ?_⟩) hHeld ?_; rotate_left; focus (intro wS hSw; (have k0 := kept hSw h0; have k1 := kept hSw h1); go_simp; try with_reducible rfl; done)) | (refine wpAnyH_take (i := 11) (v := undef) nth11 (by kernel_rfl) (by kernel_rfl) (by kernel_rfl) (fun _ _ _ h => h) (Or.inr ⟨by rfl, rfl⟩) hHeld ?_)
  (try simp only [Act.put]); (try simp only [List.setIfInBounds_toArray]); (try simp only [List.set_cons_succ]); (try simp only [List.set_cons_zero])
  first | (refine wpAnyH_take (i := 12) (v := ?_) nth12 (by kernel_rfl) (by kernel_rfl) (by kernel_rfl) (fun _ _ _ h => h) (Or.inl ⟨by rfl, ?_⟩) hHeld ?_; rotate_left; focus (intro wS hSw; (have k0 := kept hSw h0; have k1 := kept hSw h1); go_simp; try with_reducible rfl; done)) | (refine wpAnyH_take (i := 12) (v := undef) nth12 (by kernel_rfl) (by kernel_rfl) (by kernel_rfl) (fun _ _ _ h => h) (Or.inr ⟨by rfl, rfl⟩) hHeld ?_)
  (try simp only [Act.put]); (try simp only [List.setIfInBounds_toArray]); (try simp only [List.set_cons_succ]); (try simp only [List.set_cons_zero])
  first | (refine wpAnyH_take (i := 13) (v := ?_) nth13 (by kernel_rfl) (by kernel_rfl) (by kernel_rfl) (fun _ _ _ h => h) (Or.inl ⟨by rfl, ?_⟩) hHeld ?_; rotate_left; focus (intro wS hSw; (have k0 := kept hSw h0; have k1 := kept hSw h1); go_simp; try with_reducible rfl; done)) | (refine wpAnyH_take (i := 13) (v := undef) nth13 (by kernel_rfl) (by kernel_rfl) (by kernel_rfl) (fun _ _ _ h => h) (Or.inr ⟨by rfl, rfl⟩) hHeld ?_)
  (try simp only [Act.put]); (try simp only [List.setIfInBounds_toArray]); (try simp only [List.set_cons_succ]); (try simp only [List.set_cons_zero])
  first | (refine wpAnyH_take (i := 14) (v := ?_) nth14 (by kernel_rfl) (by kernel_rfl) (by kernel_rfl) (fun _ _ _ h => h) (Or.inl ⟨by rfl, ?_⟩) hHeld ?_; rotate_left; focus (intro wS hSw; (have k0 := kept hSw h0; have k1 := kept hSw h1); go_simp; try with_reducible rfl; done)) | (refine wpAnyH_take (i := 14) (v := undef) nth14 (by kernel_rfl) (by kernel_rfl) (by kernel_rfl) (fun _ _ _ h => h) (Or.inr ⟨by rfl, rfl⟩) hHeld ?_)
  (try simp only [Act.put]); (try simp only [List.setIfInBounds_toArray]); (try simp only [List.set_cons_succ]); (try simp only [List.set_cons_zero])
  first | (refine wpAnyH_take (i := 15) (v := ?_) nth15 (by kernel_rfl) (by kernel_rfl) (by kernel_rfl) (fun _ _ _ h => h) (Or.inl ⟨by rfl, ?_⟩) hHeld ?_; rotate_left; focus (intro wS hSw; (have k0 := kept hSw h0; have k1 := kept hSw h1); go_simp; try with_reducible rfl; done)) | (refine wpAnyH_take (i := 15) (v := undef) nth15 (by kernel_rfl) (by kernel_rfl) (by kernel_rfl) (fun _ _ _ h => h) (Or.inr ⟨by rfl, rfl⟩) hHeld ?_)
  (try simp only [Act.put]); (try simp only [List.setIfInBounds_toArray]); (try simp only [List.set_cons_succ]); (try simp only [List.set_cons_zero])
  first | (refine wpAnyH_take (i := 16) (v := ?_) nth16 (by kernel_rfl) (by kernel_rfl) (by kernel_rfl) (fun _ _ _ h => h) (Or.inl ⟨by rfl, ?_⟩) hHeld ?_; rotate_left; focus (intro wS hSw; (have k0 := kept hSw h0; have k1 := kept hSw h1); go_simp; try with_reducible rfl; done)) | (refine wpAnyH_take (i := 16) (v := undef) nth16 (by kernel_rfl) (by kernel_rfl) (by kernel_rfl) (fun _ _ _ h => h) (Or.inr ⟨by rfl, rfl⟩) hHeld ?_)
  (try simp only [Act.put]); (try simp only [List.setIfInBounds_toArray]); (try simp only [List.set_cons_succ]); (try simp only [List.set_cons_zero])
  first | (refine wpAnyH_take (i := 17) (v := ?_) nth17 (by kernel_rfl) (by kernel_rfl) (by kernel_rfl) (fun _ _ _ h => h) (Or.inl ⟨by rfl, ?_⟩) hHeld ?_; rotate_left; focus (intro wS hSw; (have k0 := kept hSw h0; have k1 := kept hSw h1); go_simp; try with_reducible rfl; done)) | (refine wpAnyH_take (i := 17) (v := undef) nth17 (by kernel_rfl) (by kernel_rfl) (by kernel_rfl) (fun _ _ _ h => h) (Or.inr ⟨by rfl, rfl⟩) hHeld ?_)
  (try simp only [Act.put]); (try simp only [List.setIfInBounds_toArray]); (try simp only [List.set_cons_succ]); (try simp only [List.set_cons_zero])
  first | (refine wpAnyH_take (i := 18) (v := ?_) nth18 (by kernel_rfl) (by kernel_rfl) (by kernel_rfl) (fun _ _ _ h => h) (Or.inl ⟨by rfl, ?_⟩) hHeld ?_; rotate_left; focus (intro wS hSw; (have k0 := kept hSw h0; have k1 := kept hSw h1); go_simp; try with_reducible rfl; done)) | (refine wpAnyH_take (i := 18) (v := undef) nth18 (by kernel_rfl) (by kernel_rfl) (by kernel_rfl) (fun _ _ _ h => h) (Or.inr ⟨by rfl, rfl⟩) hHeld ?_)
  (try simp only [Act.put]); (try simp only [List.setIfInBounds_toArray]); (try simp only [List.set_cons_succ]); (try simp only [List.set_cons_zero])
  first | (refine wpAnyH_take (i := 19) (v := ?_) nth19 (by kernel_rfl) (by kernel_rfl) (by kernel_rfl) (fun _ _ _ h => h) (Or.inl ⟨by rfl, ?_⟩) hHeld ?_; rotate_left; focus (intro wS hSw; (have k0 := kept hSw h0; have k1 := kept hSw h1); go_simp; try with_reducible rfl; done)) | (refine wpAnyH_take (i := 19) (v := undef) nth19 (by kernel_rfl) (by kernel_rfl) (by kernel_rfl) (fun _ _ _ h => h) (Or.inr ⟨by rfl, rfl⟩) hHeld ?_)
  (try simp only [Act.put]); (try simp only [List.setIfInBounds_toArray]); (try simp only [List.set_cons_succ]); (try simp only [List.set_cons_zero])
  first | (refine wpAnyH_take (i := 20) (v := ?_) nth20 (by kernel_rfl) (by kernel_rfl) (by kernel_rfl) (fun _ _ _ h => h) (Or.inl ⟨by rfl, ?_⟩) hHeld ?_; rotate_left; focus (intro wS hSw; (have k0 := kept hSw h0; have k1 := kept hSw h1); go_simp; try with_reducible rfl; done)) | (refine wpAnyH_take (i := 20) (v := undef) nth20 (by kernel_rfl) (by kernel_rfl) (by kernel_rfl) (fun _ _ _ h => h) (Or.inr ⟨by rfl, rfl⟩) hHeld ?_)
  (try simp only [Act.put]); (try simp only [List.setIfInBounds_toArray]); (try simp only [List.set_cons_succ]); (try simp only [List.set_cons_zero])
  refine wpAnyH_ready (rs := [21]) (by kernel_rfl) (by simp) ?_
  refine AllReadyH.cons nth21 (fun K hK => ?_) AllReadyH.nil
  go_simp
  first | (go_at_call 6; refine (QO.out _ hHeld).mono ?_; rintro e w' ⟨rfl, hb⟩) | (go_at_call 10; refine (QB.out _ hHeld).mono ?_; rintro e w' ⟨rfl, hb⟩) | (go_at_call 19; refine (QS.out _).mono ?_; rintro e w' ⟨rfl, hb⟩) | (go_at_call 18; refine (QT.out _ hHeld).mono ?_; rintro e w' ⟨rfl, hb⟩) | (go_at_call 21; refine (QL.out _).mono ?_; rintro e w' ⟨rfl, hb⟩) | (go_at_call 20; refine (QR.out _).mono ?_; rintro e w' ⟨rfl, hb⟩)
  refine hK.out _ _ (Bel.then hHeld hb) (fun hHeld => ?_)
  clear hK K
  (try simp only [Act.put]); (try simp only [List.setIfInBounds_toArray]); (try simp only [List.set_cons_succ]); (try simp only [List.set_cons_zero])
  first | (refine wpAnyH_take (i := 22) (v := ?_) nth22 (by kernel_rfl) (by kernel_rfl) (by kernel_rfl) (fun _ _ _ h => h) (Or.inl ⟨by rfl, ?_⟩) hHeld ?_; rotate_left; focus (intro wS hSw; (have k0 := kept hSw h0; have k1 := kept hSw h1); go_simp; try with_reducible rfl; done)) | (refine wpAnyH_take (i := 22) (v := undef) nth22 (by kernel_rfl) (by kernel_rfl) (by kernel_rfl) (fun _ _ _ h => h) (Or.inr ⟨by rfl, rfl⟩) hHeld ?_)
  (try simp only [Act.put]); (try simp only [List.setIfInBounds_toArray]); (try simp only [List.set_cons_succ]); (try simp only [List.set_cons_zero])
  first | (refine wpAnyH_take (i := 23) (v := ?_) nth23 (by kernel_rfl) (by kernel_rfl) (by kernel_rfl) (fun _ _ _ h => h) (Or.inl ⟨by rfl, ?_⟩) hHeld ?_; rotate_left; focus (intro wS hSw; (have k0 := kept hSw h0; have k1 := kept hSw h1); go_simp; try with_reducible rfl; done)) | (refine wpAnyH_take (i := 23) (v := undef) nth23 (by kernel_rfl) (by kernel_rfl) (by kernel_rfl) (fun _ _ _ h => h) (Or.inr ⟨by rfl, rfl⟩) hHeld ?_)
  (try simp only [Act.put]); (try simp only [List.setIfInBounds_toArray]); (try simp only [List.set_cons_succ]); (try simp only [List.set_cons_zero])
  first | (refine wpAnyH_take (i := 24) (v := ?_) nth24 (by kernel_rfl) (by kernel_rfl) (by kernel_rfl) (fun _ _ _ h => h) (Or.inl ⟨by rfl, ?_⟩) hHeld ?_; rotate_left; focus (intro wS hSw; (have k0 := kept hSw h0; have k1 := kept hSw h1); go_simp; try with_reducible rfl; done)) | (refine wpAnyH_take (i := 24) (v := undef) nth24 (by kernel_rfl) (by kernel_rfl) (by kernel_rfl) (fun _ _ _ h => h) (Or.inr ⟨by rfl, rfl⟩) hHeld ?_)
  (try simp only [Act.put]); (try simp only [List.setIfInBounds_toArray]); (try simp only [List.set_cons_succ]); (try simp only [List.set_cons_zero])
  refine wpAnyH_ready (rs := [25]) (by kernel_rfl) (by simp) ?_
  refine AllReadyH.cons nth25 (fun K hK => ?_) AllReadyH.nil
  go_simp
  first | (go_at_call 6; refine (QO.out _ hHeld).mono ?_; rintro e w' ⟨rfl, hb⟩) | (go_at_call 10; refine (QB.out _ hHeld).mono ?_; rintro e w' ⟨rfl, hb⟩) | (go_at_call 19; refine (QS.out _).mono ?_; rintro e w' ⟨rfl, hb⟩) | (go_at_call 18; refine (QT.out _ hHeld).mono ?_; rintro e w' ⟨rfl, hb⟩) | (go_at_call 21; refine (QL.out _).mono ?_; rintro e w' ⟨rfl, hb⟩) | (go_at_call 20; refine (QR.out _).mono ?_; rintro e w' ⟨rfl, hb⟩)
  refine hK.out _ _ (Bel.then hHeld hb) (fun hHeld => ?_)
  clear hK K
  (try simp only [Act.put]); (try simp only [List.setIfInBounds_toArray]); (try simp only [List.set_cons_succ]); (try simp only [List.set_cons_zero])
  refine wpAnyH_ready (rs := [26]) (by kernel_rfl) (by simp) ?_
  refine AllReadyH.cons nth26 (fun K hK => ?_) AllReadyH.nil
  go_simp
  first | (go_at_call 6; refine (QO.out _ hHeld).mono ?_; rintro e w' ⟨rfl, hb⟩) | (go_at_call 10; refine (QB.out _ hHeld).mono ?_; rintro e w' ⟨rfl, hb⟩) | (go_at_call 19; refine (QS.out _).mono ?_; rintro e w' ⟨rfl, hb⟩) | (go_at_call 18; refine (QT.out _ hHeld).mono ?_; rintro e w' ⟨rfl, hb⟩) | (go_at_call 21; refine (QL.out _).mono ?_; rintro e w' ⟨rfl, hb⟩) | (go_at_call 20; refine (QR.out _).mono ?_; rintro e w' ⟨rfl, hb⟩)
  refine hK.out _ _ (Bel.then hHeld hb) (fun hHeld => ?_)
  clear hK K
  (try simp only [Act.put]); (try simp only [List.setIfInBounds_toArray]); (try simp only [List.set_cons_succ]); (try simp only [List.set_cons_zero])
  first | (refine wpAnyH_take (i := 27) (v := ?_) nth27 (by kernel_rfl) (by kernel_rfl) (by kernel_rfl) (fun _ _ _ h => h) (Or.inl ⟨by rfl, ?_⟩) hHeld ?_; rotate_left; focus (intro wS hSw; (have k0 := kept hSw h0; have k1 := kept hSw h1); go_simp; try with_reducible rfl; done)) | (refine wpAnyH_take (i := 27) (v := undef) nth27 (by kernel_rfl) (by kernel_rfl) (by kernel_rfl) (fun _ _ _ h => h) (Or.inr ⟨by rfl, rfl⟩) hHeld ?_)
  (try simp only [Act.put]); (try simp only [List.setIfInBounds_toArray]); (try simp only [List.set_cons_succ]); (try simp only [List.set_cons_zero])
  first | (refine wpAnyH_take (i := 28) (v := ?_) nth28 (by kernel_rfl) (by kernel_rfl) (by kernel_rfl) (fun _ _ _ h => h) (Or.inl ⟨by rfl, ?_⟩) hHeld ?_; rotate_left; focus (intro wS hSw; (have k0 := kept hSw h0; have k1 := kept hSw h1); go_simp; try with_reducible rfl; done)) | (refine wpAnyH_take (i := 28) (v := undef) nth28 (by kernel_rfl) (by kernel_rfl) (by kernel_rfl) (fun _ _ _ h => h) (Or.inr ⟨by rfl, rfl⟩) hHeld ?_)
  (try simp only [Act.put]); (try simp only [List.setIfInBounds_toArray]); (try simp only [List.set_cons_succ]); (try simp only [List.set_cons_zero])
  first | (refine wpAnyH_take (i := 29) (v := ?_) nth29 (by kernel_rfl) (by kernel_rfl) (by kernel_rfl) (fun _ _ _ h => h) (Or.inl ⟨by rfl, ?_⟩) hHeld ?_; rotate_left; focus (intro wS hSw; (have k0 := kept hSw h0; have k1 := kept hSw h1); go_simp; try with_reducible rfl; done)) | (refine wpAnyH_take (i := 29) (v := undef) nth29 (by kernel_rfl) (by kernel_rfl) (by kernel_rfl) (fun _ _ _ h => h) (Or.inr ⟨by rfl, rfl⟩) hHeld ?_)
  (try simp only [Act.put]); (try simp only [List.setIfInBounds_toArray]); (try simp only [List.set_cons_succ]); (try simp only [List.set_cons_zero])
  refine wpAnyH_ready (rs := [30]) (by kernel_rfl) (by simp) ?_
  refine AllReadyH.cons nth30 (fun K hK => ?_) AllReadyH.nil
  go_simp
  first | (go_at_call 6; refine (QO.out _ hHeld).mono ?_; rintro e w' ⟨rfl, hb⟩) | (go_at_call 10; refine (QB.out _ hHeld).mono ?_; rintro e w' ⟨rfl, hb⟩) | (go_at_call 19; refine (QS.out _).mono ?_; rintro e w' ⟨rfl, hb⟩) | (go_at_call 18; refine (QT.out _ hHeld).mono ?_; rintro e w' ⟨rfl, hb⟩) | (go_at_call 21; refine (QL.out _).mono ?_; rintro e w' ⟨rfl, hb⟩) | (go_at_call 20; refine (QR.out _).mono ?_; rintro e w' ⟨rfl, hb⟩)
  refine hK.out _ _ (Bel.then hHeld hb) (fun hHeld => ?_)
  clear hK K
  (try simp only [Act.put]); (try simp only [List.setIfInBounds_toArray]); (try simp only [List.set_cons_succ]); (try simp only [List.set_cons_zero])
  refine wpAnyH_ready (rs := [31]) (by kernel_rfl) (by simp) ?_
  refine AllReadyH.cons nth31 (fun K hK => ?_) AllReadyH.nil
  go_simp
  first | (go_at_call 6; refine (QO.out _ hHeld).mono ?_; rintro e w' ⟨rfl, hb⟩) | (go_at_call 10; refine (QB.out _ hHeld).mono ?_; rintro e w' ⟨rfl, hb⟩) | (go_at_call 19; refine (QS.out _).mono ?_; rintro e w' ⟨rfl, hb⟩) | (go_at_call 18; refine (QT.out _ hHeld).mono ?_; rintro e w' ⟨rfl, hb⟩) | (go_at_call 21; refine (QL.out _).mono ?_; rintro e w' ⟨rfl, hb⟩) | (go_at_call 20; refine (QR.out _).mono ?_; rintro e w' ⟨rfl, hb⟩)
  refine hK.out _ _ (Bel.then hHeld hb) (fun hHeld => ?_)
  clear hK K
  (try simp only [Act.put]); (try simp only [List.setIfInBounds_toArray]); (try simp only [List.set_cons_succ]); (try simp only [List.set_cons_zero])
  first | (refine wpAnyH_take (i := 32) (v := ?_) nth32 (by kernel_rfl) (by kernel_rfl) (by kernel_rfl) (fun _ _ _ h => h) (Or.inl ⟨by rfl, ?_⟩) hHeld ?_; rotate_left; focus (intro wS hSw; (have k0 := kept hSw h0; have k1 := kept hSw h1); go_simp; try with_reducible rfl; done)) | (refine wpAnyH_take (i := 32) (v := undef) nth32 (by kernel_rfl) (by kernel_rfl) (by kernel_rfl) (fun _ _ _ h => h) (Or.inr ⟨by rfl, rfl⟩) hHeld ?_)
  (try simp only [Act.put]); (try simp only [List.setIfInBounds_toArray]); (try simp only [List.set_cons_succ]); (try simp only [List.set_cons_zero])
  first | (refine wpAnyH_take (i := 33) (v := ?_) nth33 (by kernel_rfl) (by kernel_rfl) (by kernel_rfl) (fun _ _ _ h => h) (Or.inl ⟨by rfl, ?_⟩) hHeld ?_; rotate_left; focus (intro wS hSw; (have k0 := kept hSw h0; have k1 := kept hSw h1); go_simp; try with_reducible rfl; done)) | (refine wpAnyH_take (i := 33) (v := undef) nth33 (by kernel_rfl) (by kernel_rfl) (by kernel_rfl) (fun _ _ _ h => h) (Or.inr ⟨by rfl, rfl⟩) hHeld ?_)
  (try simp only [Act.put]); (try simp only [List.setIfInBounds_toArray]); (try simp only [List.set_cons_succ]); (try simp only [List.set_cons_zero])
  first | (refine wpAnyH_take (i := 34) (v := ?_) nth34 (by kernel_rfl) (by kernel_rfl) (by kernel_rfl) (fun _ _ _ h => h) (Or.inl ⟨by rfl, ?_⟩) hHeld ?_; rotate_left; focus (intro wS hSw; (have k0 := kept hSw h0; have k1 := kept hSw h1); go_simp; try with_reducible rfl; done)) | (refine wpAnyH_take (i := 34) (v := undef) nth34 (by kernel_rfl) (by kernel_rfl) (by kernel_rfl) (fun _ _ _ h => h) (Or.inr ⟨by rfl, rfl⟩) hHeld ?_)
  (try simp only [Act.put]); (try simp only [List.setIfInBounds_toArray]); (try simp only [List.set_cons_succ]); (try simp only [List.set_cons_zero])
  first | (refine wpAnyH_take (i := 35) (v := ?_) nth35 (by kernel_rfl) (by kernel_rfl) (by kernel_rfl) (fun _ _ _ h => h) (Or.inl ⟨by rfl, ?_⟩) hHeld ?_; rotate_left; focus (intro wS hSw; (have k0 := kept hSw h0; have k1 := kept hSw h1); go_simp; try with_reducible rfl; done)) | (refine wpAnyH_take (i := 35) (v := undef) nth35 (by kernel_rfl) (by kernel_rfl) (by kernel_rfl) (fun _ _ _ h => h) (Or.inr ⟨by rfl, rfl⟩) hHeld ?_)
  (try simp only [Act.put]); (try simp only [List.setIfInBounds_toArray]); (try simp only [List.set_cons_succ]); (try simp only [List.set_cons_zero])
  refine wpAnyH_ready (rs := [36]) (by kernel_rfl) (by simp) ?_
  refine AllReadyH.cons nth36 (fun K hK => ?_) AllReadyH.nil
  go_simp
  first | (go_at_call 6; refine (QO.out _ hHeld).mono ?_; rintro e w' ⟨rfl, hb⟩) | (go_at_call 10; refine (QB.out _ hHeld).mono ?_; rintro e w' ⟨rfl, hb⟩) | (go_at_call 19; refine (QS.out _).mono ?_; rintro e w' ⟨rfl, hb⟩) | (go_at_call 18; refine (QT.out _ hHeld).mono ?_; rintro e w' ⟨rfl, hb⟩) | (go_at_call 21; refine (QL.out _).mono ?_; rintro e w' ⟨rfl, hb⟩) | (go_at_call 20; refine (QR.out _).mono ?_; rintro e w' ⟨rfl, hb⟩)
  refine hK.out _ _ (Bel.then hHeld hb) (fun hHeld => ?_)
  clear hK K
  (try simp only [Act.put]); (try simp only [List.setIfInBounds_toArray]); (try simp only [List.set_cons_succ]); (try simp only [List.set_cons_zero])
  first | (refine wpAnyH_take (i := 37) (v := ?_) nth37 (by kernel_rfl) (by kernel_rfl) (by kernel_rfl) (fun _ _ _ h => h) (Or.inl ⟨by rfl, ?_⟩) hHeld ?_; rotate_left; focus (intro wS hSw; (have k0 := kept hSw h0; have k1 := kept hSw h1); go_simp; try with_reducible rfl; done)) | (refine wpAnyH_take (i := 37) (v := undef) nth37 (by kernel_rfl) (by kernel_rfl) (by kernel_rfl) (fun _ _ _ h => h) (Or.inr ⟨by rfl, rfl⟩) hHeld ?_)
  (try simp only [Act.put]); (try simp only [List.setIfInBounds_toArray]); (try simp only [List.set_cons_succ]); (try simp only [List.set_cons_zero])
  first | (refine wpAnyH_take (i := 38) (v := ?_) nth38 (by kernel_rfl) (by kernel_rfl) (by kernel_rfl) (fun _ _ _ h => h) (Or.inl ⟨by rfl, ?_⟩) hHeld ?_; rotate_left; focus (intro wS hSw; (have k0 := kept hSw h0; have k1 := kept hSw h1); go_simp; try with_reducible rfl; done)) | (refine wpAnyH_take (i := 38) (v := undef) nth38 (by kernel_rfl) (by kernel_rfl) (by kernel_rfl) (fun _ _ _ h => h) (Or.inr ⟨by rfl, rfl⟩) hHeld ?_)
  (try simp only [Act.put]); (try simp only [List.setIfInBounds_toArray]); (try simp only [List.set_cons_succ]); (try simp only [List.set_cons_zero])
  refine wpAnyH_done (by kernel_rfl) ?_ _
  go_wp2_with fail
  go_ret
  exact ⟨rfl, HB9.out.trans (hHeld.mono HB9.out.size)⟩
end Go.Proofs.YtobepbpiagclnaaDoor
namespace Go.Proofs.YtobepbpiagclnaaDoor
set_option linter.unusedVariables false
open Go.ChangeShapes Go.WideShapes Go.ChangeAt Go.RowKit Go.Deep

def OkV (v : ValV) : Prop := (-9223372036854775808 ≤ v.num ∧ v.num ≤ 9223372036854775807) ∧ v.str.size ≤ 1048576
theorem one_str : Tryd.prog.cellsOf 9 = 1 := by kernel_rfl
theorem one_int : Tryd.prog.cellsOf 3 = 1 := by kernel_rfl
section
variable {H : Type} {enc : TypeId × Value → H} {w : World} {base : Nat} {spare : Nat → Bool} {held : Bool}
theorem open_val {n : Nat} {vs : List Value} {y : DataW H × List MemPlace} {M : Nat} (hl : vs.length = 3) (h : DataW.trod enc Tryd.prog w base spare held n 33 vs = some y) (hM : Rows.uptoBulk y.1 ≤ M) :
    ∃ a : ValV, vs = valCells a ∧ ((-9223372036854775808 ≤ a.num ∧ a.num ≤ 9223372036854775807) ∧ a.str.size ≤ M) := by
  obtain ⟨a, b, c, y0, y1, y2, m, rfl, hy, f0, f1, f2⟩ := open_fields3 Tryd.underlying33 (by kernel_rfl) hl h
  obtain ⟨k, e0, _, _⟩ := DataW.trod_int Tryd.underlying3 f0
  obtain ⟨n, e1, _, hn⟩ := DataW.trod_int Tryd.underlying3 f1
  obtain ⟨s, e2, hs, _⟩ := DataW.trod_string Tryd.underlying9 f2
  simp only [List.cons.injEq, and_true] at e0 e1 e2
  subst e0 e1 e2
  refine ⟨⟨k, n, s⟩, rfl, bounds_i64 hn, ?_⟩
  have h1 := bulk_parts [y0.1, y1.1, y2.1]
  have h2 : Rows.uptoBulk y2.1 ≤ Rows.uptoBulkAll [y0.1, y1.1, y2.1] := bulk_mem (by simp)
  have h3 := bulk_str (H := H) s
  rw [hy] at hM
  rw [hs] at h1 h2 hM
  simp only at *
  omega
theorem open_vrow {n : Nat} {cs : List Value} {x : DataW H × List MemPlace} {M : Nat} (hM : Rows.uptoBulk x.1 ≤ M) (h : DataW.trod enc Tryd.prog w base spare held n 26 cs = some x) :
    ∃ A N C l, cs = [.slice A N C] ∧ RowAt w w.heap.size A N C l ∧ N ≤ M ∧ ∀ a ∈ l, (-9223372036854775808 ≤ a.num ∧ a.num ≤ 9223372036854775807) ∧ a.str.size ≤ M := by
  have hf : ∀ n vs y, vs.length = 3 → DataW.trod enc Tryd.prog w base spare held n 33 vs = some y → Rows.uptoBulk y.1 ≤ M → ∃ a : ValV, vs = valCells a ∧ ((-9223372036854775808 ≤ a.num ∧ a.num ≤ 9223372036854775807) ∧ a.str.size ≤ M) := fun n vs y hl hy hb => open_val hl hy hb
  obtain ⟨A, N, C, l, rfl, h1, h2, h3, h4, h5, h6, h7⟩ := open_elems (α := ValV) valCells (Good := fun a => (-9223372036854775808 ≤ a.num ∧ a.num ≤ 9223372036854775807) ∧ a.str.size ≤ M) Tryd.underlying26 (k := 3) (by kernel_rfl) (by omega) Rows.uptoBulk bulk_el bulk_le hM hf h
  exact ⟨A, N, C, l, rfl, ⟨h4, h1, h2, h3, h6⟩, h5, h7⟩
theorem open_valT {v : Value} {d : DataW H} {p : List MemPlace} (hok : Value.okWide Tryd.prog w .any base 33 v) (h : DataW.Trod enc Tryd.prog w 0 (fun _ => true) true 33 v d p) (hM : Rows.uptoBulk d ≤ 1048576) : ∃ a : ValV, v = valAgg a ∧ OkV a := by
  obtain ⟨cs, rfl, hsz⟩ := okWide_struct Tryd.underlying33 hok
  have hC : Tryd.prog.cellsOf 33 = 3 := by kernel_rfl
  rw [hC] at hsz
  obtain ⟨fuel, hf⟩ := h
  obtain ⟨a, ha, h1, h2⟩ := open_val (M := 1048576) (vs := cs.toList) (by rw [Array.length_toList]; exact hsz) hf hM
  refine ⟨a, ?_, h1, h2⟩
  obtain ⟨l⟩ := cs
  simp only at ha
  rw [ha]
  rfl
theorem open_rowT {v : Value} {d : DataW H} {p : List MemPlace} (hok : Value.okWide Tryd.prog w .any base 26 v) (h : DataW.Trod enc Tryd.prog w 0 (fun _ => true) true 26 v d p) (hM : Rows.uptoBulk d ≤ 1048576) : ∃ A N C l, v = .slice A N C ∧ RowAt w w.heap.size A N C l ∧ N ≤ 1048576 ∧ ∀ a ∈ l, OkV a := by
  obtain ⟨n, h0⟩ := h
  obtain ⟨A, N, C, l, e, h1, h2, h3⟩ := open_vrow (M := 1048576) (by simpa using hM) h0
  obtain ⟨a0, len0, cap0, rfl⟩ := okWide_slice Tryd.underlying26 hok
  simp [Value.cells] at e
  obtain ⟨rfl, rfl, rfl⟩ := e
  exact ⟨_, _, _, l, rfl, h1, h2, h3⟩
end
end Go.Proofs.YtobepbpiagclnaaDoor
namespace Go.Proofs.YtobepbpiagclnaaDoor
set_option linter.unusedVariables false
open Go.ChangeShapes Go.WideShapes Go.ChangeAt Go.RowKit

/-- A block of cells. -/
def BoxIs (b : Nat) (xs : List Value) (w : World) : Prop := ∀ k u, xs[k]? = some u → w.cell? ⟨b, k, none⟩ = some u
theorem box_new (w : World) (cs : Array Value) (t : TypeId) : BoxIs w.heap.size cs.toList (w.alloc (.cells cs t)) := by
  intro k u hu
  rw [cell_of_row _ _ k _ _ _ (heap_alloc_new w _)]
  simpa using hu
theorem BoxIs.step {b : Nat} {xs : List Value} {a w : World} (h : BoxIs b xs a) (hb : Below a.heap.size a w) : BoxIs b xs w := fun k u hu => kept hb (h k u hu)
/-- Two values in their boxes. -/
structure FineV (w : World) (a b : ValV) (w' : World) : Prop where
  below : Below w.heap.size w w'
  vw : ValW w'
  ba : BoxIs w.heap.size (valCells a) w'
  bb : BoxIs (w.heap.size + 1) (valCells b) w'
theorem FineV.step {w x y : World} {a b : ValV} (h : FineV w a b x) (hb : Below x.heap.size x y) : FineV w a b y := ⟨Bel.then h.below hb, h.vw.keep hb, h.ba.step hb, h.bb.step hb⟩
theorem FineV.drew {w x : World} {a b : ValV} (h : FineV w a b x) : FineV w a b x.drew := h.step (Below.refl _ _).drew
theorem fineV_new (w : World) (a b : ValV) (hW : ValW w) (t t2 : TypeId) : FineV w a b ((w.alloc (.cells #[.int .i64 a.kind, .int .i64 a.num, .string a.str] t)).alloc (.cells #[.int .i64 b.kind, .int .i64 b.num, .string b.str] t2)) := by
  have h1 := Bel.one w (.cells #[.int .i64 a.kind, .int .i64 a.num, .string a.str] t)
  have h2 := Bel.one (w.alloc (.cells #[.int .i64 a.kind, .int .i64 a.num, .string a.str] t)) (.cells #[.int .i64 b.kind, .int .i64 b.num, .string b.str] t2)
  refine ⟨Bel.then h1 h2, (hW.keep h1).keep h2, (box_new w #[.int .i64 a.kind, .int .i64 a.num, .string a.str] t).step h2, ?_⟩
  have := box_new (w.alloc (.cells #[.int .i64 a.kind, .int .i64 a.num, .string a.str] t)) #[.int .i64 b.kind, .int .i64 b.num, .string b.str] t2
  rwa [World.size_alloc] at this
end Go.Proofs.YtobepbpiagclnaaDoor
namespace Go.Proofs.YtobepbpiagclnaaDoor
set_option linter.unusedVariables false
open Go.ChangeShapes Go.WideShapes Go.ChangeAt Go.RowKit Go.Deep

theorem max_of {W : World} (hS : W.ShapedOpen Tryd.prog) : ∃ m, W.cell? ⟨0, 0, none⟩ = some (.int .i64 m) :=
  cell_of_shapedOpen_int (t := 3) (zero := #[.int .i64 0]) hS (of_decide_eq_true (by kernel_rfl)) (by kernel_rfl) rfl (by kernel_rfl) (by kernel_rfl) (by kernel_rfl)
theorem valW_of {W : World} (h0 : laidMetH Tryd.prog [("math/bits.deBruijn32tab", Rows.laid_math_bits_deBruijn32tab), ("math/bits.deBruijn64tab", Rows.laid_math_bits_deBruijn64tab), ("internal/strconv.uint64pow10", Rows.laid_internal_strconv_uint64pow10), ("unicode/utf8.acceptRanges", Rows.laid_unicode_utf8_acceptRanges), ("unicode/utf8.first", Rows.laid_unicode_utf8_first)] W) (hS : W.ShapedOpen Tryd.prog) : ValW W := by
  rw [MakeChecks.laidMetH_plain _ _ _ (by kernel_rfl)] at h0
  exact ⟨⟨Lib.tabIs_of_head gPow tPow Tryd.underlying87 Tryd.underlying73 (by kernel_rfl) (by kernel_rfl) (h0.tail).tail⟩, max_of hS⟩
end Go.Proofs.YtobepbpiagclnaaDoor
