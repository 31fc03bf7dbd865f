/- The contracts of Order, of the reference's, and of Bys. -/
import Derived.Test.YtjbnhaiiedajjaaDoorKey
namespace Go.Proofs.YtjbnhaiiedajjaaDoor
set_option linter.unusedVariables false
open Go.ChangeShapes Go.WideShapes Go.ChangeAt Go.RowKit

/-- The first error of an order's columns. -/
def ordE (cs : List ColV) : List OrdV → Int
  | [] => 0
  | o :: r => if (keyF cs o).2 = 0 then ordE cs r else (keyF cs o).2
def byCells (cs : List ColV) (o : OrdV) : List Value := [.int .i64 (keyF cs o).1, .bool o.dwn]
/-- What is given for an order: all its columns, or none. -/
def ordL (cs : List ColV) (l : List OrdV) : List (List Value) := if ordE cs l = 0 then l.map (byCells cs) else []
theorem ordE_at (cs : List ColV) {l : List OrdV} {j : Nat} {o : OrdV} (h : l[j]? = some o) : ordE cs (l.drop j) = if (keyF cs o).2 = 0 then ordE cs (l.drop (j + 1)) else (keyF cs o).2 := by
  rw [drop_at h]; rfl
/-- A slice of an order's columns that is there. -/
structure OrdsAt (w : World) (B : Nat) (A : Option Addr) (n c : Nat) (l : List OrdV) : Prop where
  len : l.length = n
  cap : n ≤ c
  max : c ≤ maxLen
  nil : A = none → n = 0
  recs : Recs w B A 3 (l.map ordCells)
  pos : ∀ o ∈ l, -9223372036854775808 ≤ o.pos ∧ o.pos ≤ 9223372036854775807
theorem OrdsAt.below {w w' : World} {B n c : Nat} {A : Option Addr} {l : List OrdV} (h : OrdsAt w B A n c l) (hb : Below B w w') : OrdsAt w' B A n c l := ⟨h.len, h.cap, h.max, h.nil, h.recs.below hb, h.pos⟩
theorem OrdsAt.more {w : World} {B B' n c : Nat} {A : Option Addr} {l : List OrdV} (h : OrdsAt w B A n c l) (hb : B ≤ B') : OrdsAt w B' A n c l := ⟨h.len, h.cap, h.max, h.nil, h.recs.more hb, h.pos⟩
theorem OrdsAt.ord {w : World} {B n c : Nat} {A : Option Addr} {l : List OrdV} (h : OrdsAt w B A n c l) {k : Nat} (hk : k < n) :
    ∃ b off o, A = some ⟨b, off, none⟩ ∧ b < B ∧ l[k]? = some o ∧ w.cell? ⟨b, off + k * 3, none⟩ = some (.string o.nam) ∧ w.cell? ⟨b, off + k * 3 + 1, none⟩ = some (.int .i64 o.pos) ∧ w.cell? ⟨b, off + k * 3 + 2, none⟩ = some (.bool o.dwn) := by
  have hl := h.len
  obtain ⟨b, off, e, hlt, hc⟩ := h.recs.at (by omega) (by rw [List.length_map]; omega)
  have hcs : l[k]? = some (l[k]'(by omega)) := List.getElem?_eq_getElem (by omega)
  have hx : (l.map ordCells)[k]? = some (ordCells (l[k]'(by omega))) := by rw [List.getElem?_map, hcs]; rfl
  exact ⟨b, off, _, e, hlt, hcs, hc k _ 0 _ hx rfl, hc k _ 1 _ hx rfl, hc k _ 2 _ hx rfl⟩
theorem by_info : (Tryd.prog.info? 56).map (fun i => (i.zero, i.size, i.bytes)) = some (some (.agg #[.int .i64 0, .bool false]), 2, 16) := by kernel_rfl
/-- A slice of columns by which rows are sorted, and an error. -/
def GivesBys (w : World) (bys : List (List Value)) (err : Int) (e : Ending) (w' : World) : Prop := ∃ A c, e = .returned (.tuple #[.slice A bys.length c, .int .i64 err]) ∧ Recs w' w'.heap.size A 2 bys ∧ Below w.heap.size w w' ∧ FreshA w.heap.size A
set_option maxHeartbeats 2000000 in
theorem order_c (A A2 : Option Addr) (N C N2 C2 : Nat) (cs : List ColV) (l : List OrdV) (w : World) (h : ColsAt w w.heap.size A N C cs) (h2 : OrdsAt w w.heap.size A2 N2 C2 l) (hN2 : N2 ≤ 1048576) :
    Calls Tryd.prog 12 #[.slice A N C, .slice A2 N2 C2] w fun e w' => GivesBys w (ordL cs l) (ordE cs l) e w' := by
  obtain ⟨i0, hi0, hz0, hz1, hz2⟩ := info_parts by_info
  have hm1 := h.cap
  have hm2 := h2.cap
  have HC := hide h
  have HL := hide h2
  clear h h2
  go_enter Tryd.func12, Tryd.ntmps12
  go_wp2
  go_loopw [6, 13] (fun o i wr => ∃ j : Nat, j ≤ N2 ∧ i = .int .i64 j ∧ Hid (wr.ownsRow w.heap.size 56 2 o j ((l.take j).map (byCells cs)).flatten) ∧ Hid (Below w.heap.size w wr) ∧ Hid (ordE cs (l.drop j) = ordE cs l)) (fun _ i _ => N2 - (intOf i).toNat)
  case atStart => exact ⟨0, Nat.zero_le _, rfl, World.ownsRow_nil _ _ _ _, Below.refl _ _, rfl⟩
  case round =>
    obtain ⟨j, hj, rfl, HO, HB, HE⟩ := hrel
    by_cases hjt : j < N2
    · obtain ⟨b2, off2, o, rfl, hb2, hc, hc0, hc1, hc2⟩ := (HL.out.below HB.out).ord hjt
      have hpos := HL.out.pos o (List.mem_of_getElem? hc)
      have hst := HE.out.symm.trans (ordE_at cs hc)
      have htk := take_at hc
      have q := key_c A N C cs o (wr.alloc (.cells #[.string o.nam, .int .i64 o.pos, .bool o.dwn] 54)) ((HC.out.below (HB.out.alloc HB.out.size _)).more (by have := HB.out.size; simp; omega)) hpos
      have hbc : byCells cs o = [.int .i64 (keyF cs o).1, .bool o.dwn] := rfl
      generalize hk : keyF cs o = k at *
      obtain ⟨k1, k2⟩ := k
      simp only at q hst hbc
      have HQ := hide q
      have HT := hide htk
      have HBC := hide hbc
      clear q htk hbc hk hc hpos
      by_cases hk2 : k2 = 0
      · subst hk2
        rw [if_pos rfl] at hst
        have HS := hide hst
        clear hst
        go_wp2_with fail
        refine HQ.out.mono ?_
        rintro e w1 ⟨rfl, hb⟩
        have HB1 := hide (HB.out.trans ((((Below.refl wr.heap.size wr).alloc (Nat.le_refl _) _).trans (hb.mono (by simp))).mono HB.out.size))
        obtain ⟨hcc, hff⟩ := bcell hb
        have hz : wr.heap.size + 1 ≤ w1.heap.size := by have := hb.size; simp at this; omega
        have HO1 := hide (own_below (HO.out.alloc _) hb)
        clear hb
        go_wp2_with (
          at_builtin
          refine wpList_app rfl (.tmp 26) (.tmp 31) 33 rfl w.heap.size 56 i0 _ 2 16 Tryd.underlying33 hi0 hz0 hz1 hz2 rfl (by omega) u6 j _ rfl (HO1.out.alloc _) _ _ 1 1 [.int .i64 k1, .bool o.dwn] rfl rfl (cells_lit w1 #[.int .i64 k1, .bool o.dwn] 56) (by simp [Value.oneCell']) (by simp only [maxLen]; omega) (by omega) (by have := HB1.out.size; simp; omega) (by simp) ?_
          intro v1 w2 hown1 hg1 hat1
          have HB2 := hide (((Below.refl w.heap.size w1).alloc HB1.out.size (.cells #[.int .i64 k1, .bool o.dwn] 56)).grown hg1 (by have := HB1.out.size; simp; omega) (fun k hk => (HO1.out.lt k hk).1))
          have HO2 := hide hown1
          clear hown1 hg1 hat1)
        go_roundw
        case rel =>
          refine ⟨j + 1, by omega, by go_num, ?_, ?_, HS.out.symm⟩
          · show World.ownsRow _ _ _ _ _ _ _
            have := HO2.out
            rw [HT.out, List.map_append, List.flatten_append]
            simpa [HBC.out] using this
          · exact HB1.out.trans HB2.out
        case measure => simp [intOf]; omega
      · rw [if_neg hk2] at hst
        have HS := hide hst
        have hne : (k2 != 0) = true := by simp [hk2]
        have hl0 : ordL cs l = [] := by unfold ordL; rw [hst, if_neg hk2]
        have HL0 := hide hl0
        clear hst hl0
        go_wp2_with fail
        refine HQ.out.mono ?_
        rintro e w1 ⟨rfl, hb⟩
        have HB1 := hide (HB.out.trans ((((Below.refl wr.heap.size wr).alloc (Nat.le_refl _) _).trans (hb.mono (by simp))).mono HB.out.size))
        obtain ⟨hcc, hff⟩ := bcell hb
        have hz : wr.heap.size + 1 ≤ w1.heap.size := by have := hb.size; simp at this; omega
        have HO1 := hide (own_below (HO.out.alloc _) hb)
        clear hb
        go_wp2
        go_ret2
        refine ⟨none, 0, ?_, ?_, HB1.out, fun ad e => by cases e⟩
        · rw [HL0.out, HS.out]; rfl
        · rw [HL0.out]; exact ⟨by simp, Cells.none _ _ _⟩
    · have hjn : l.take j = l := List.take_of_length_le (by have := HL.out.len; omega)
      have hj2 : j = N2 := by omega
      have hE := HE.out
      rw [List.drop_of_length_le (by have := HL.out.len; omega)] at hE
      rw [hjn] at HO
      have hE0 : ordE cs l = 0 := hE.symm
      have hlen := HL.out.len
      have HE0 := hide hE0
      have HLE := hide hlen
      clear hjn hE hE0 hlen
      obtain ⟨A', c', rfl, hnc, hA', hC'⟩ := own_form HO.out
      have HC' := hide hC'
      clear hC' hA'
      go_wp2
      go_ret2
      have hl1 : ordL cs l = l.map (byCells cs) := by unfold ordL; rw [HE0.out, if_pos rfl]
      refine ⟨A', c', ?_, ?_, HB.out, ?_⟩
      · rw [hl1, HE0.out, List.length_map, HLE.out, hj2]
        rfl
      · rw [hl1]
        refine ⟨fun xs hx => ?_, HC'.out⟩
        obtain ⟨o, _, rfl⟩ := List.mem_map.1 hx
        rfl
      · intro ad e
        subst e
        exact (HO.out.lt ad.block rfl).1
end Go.Proofs.YtjbnhaiiedajjaaDoor
